/-
  Numbers in bytes, the highest first; the document's High and Num.
-/
import Derived.Test.YtcflaklnafggmaaCpn
import Derived.Test.YtcflaklnafggmaaCrc
namespace Go.Proofs.Ytcflaklnafggmaa
open Go.RowKit Go.Deep

/-- The i-th byte of v in n bytes, the highest first. -/
def high (v n i : Nat) : Nat := v / 256 ^ (n - 1 - i) % 256
theorem high_lt (v n i : Nat) : high v n i < 256 := Nat.mod_lt _ (by decide)
theorem numTo_high_to (v n : Nat) (hv : v < 256 ^ n) : ∀ k, k ≤ n → Crc.numTo (high v n) k = v / 256 ^ (n - k)
  | 0, _ => by
    rw [Nat.sub_zero, Nat.div_eq_of_lt hv]; rfl
  | k + 1, hk => by
    show Crc.numTo (high v n) k * 256 + high v n k = _
    rw [numTo_high_to v n hv k (by omega)]
    unfold high
    rw [show n - 1 - k = n - (k + 1) by omega, show n - k = n - (k + 1) + 1 by omega, Nat.pow_succ, ← Nat.div_div_eq_div_mul]
    omega
/-- A number in n bytes is that number. -/
theorem numTo_high (v n : Nat) (hv : v < 256 ^ n) : Crc.numTo (high v n) n = v := by
  rw [numTo_high_to v n hv n (Nat.le_refl _), Nat.sub_self, Nat.pow_zero, Nat.div_one]
theorem numTo_div {x : Nat → Nat} (k : Nat) : ∀ d, (∀ i, i < k + d → x i < 256) → Crc.numTo x (k + d) / 256 ^ d = Crc.numTo x k
  | 0, _ => by rw [Nat.pow_zero, Nat.div_one]; rfl
  | d + 1, hx => by
    have e : Crc.numTo x (k + (d + 1)) = Crc.numTo x (k + d) * 256 + x (k + d) := rfl
    have l := hx (k + d) (by omega)
    rw [e, Nat.pow_succ, Nat.mul_comm (256 ^ d), ← Nat.div_div_eq_div_mul, show (Crc.numTo x (k + d) * 256 + x (k + d)) / 256 = Crc.numTo x (k + d) by omega]
    exact numTo_div k d fun i hi => hx i (by omega)
/-- The bytes of the number that n bytes are. -/
theorem high_numTo {x : Nat → Nat} {n i : Nat} (hx : ∀ i, i < n → x i < 256) (hi : i < n) : high (Crc.numTo x n) n i = x i := by
  unfold high
  have h := numTo_div (x := x) (i + 1) (n - 1 - i) (fun j hj => hx j (by omega))
  rw [show i + 1 + (n - 1 - i) = n by omega] at h
  rw [h]
  show (Crc.numTo x i * 256 + x i) % 256 = x i
  have := hx i hi
  omega
theorem numTo_congr {x y : Nat → Nat} : ∀ n, (∀ i, i < n → x i = y i) → Crc.numTo x n = Crc.numTo y n
  | 0, _ => rfl
  | n + 1, h => by
    show Crc.numTo x n * 256 + x n = Crc.numTo y n * 256 + y n
    rw [numTo_congr n fun i hi => h i (by omega), h n (by omega)]
theorem high_set {w : World} {B t n v k : Nat} (hk : k < n) (h : w.rowIs B t n (byteAt fun i => if k < i then high v n i else 0)) : (w.setCell ⟨B, k, none⟩ (.int .u8 ((v / 256 ^ (n - (k + 1)) % 256 : Nat) : Int))).rowIs B t n (byteAt fun i => if k ≤ i then high v n i else 0) := by
  refine (h.set k _).congr fun i _ => ?_
  unfold byteAt
  dsimp only
  by_cases e : i = k
  · subst e; rw [if_pos rfl, if_pos (Nat.le_refl _)]; unfold high; rw [show n - 1 - i = n - (i + 1) by omega]
  · rw [if_neg e]
    by_cases g : k < i
    · rw [if_pos g, if_pos (by omega)]
    · rw [if_neg g, if_neg (by omega)]

set_option maxRecDepth 100000 in
set_option maxHeartbeats 400000 in
theorem high_any (v n : Nat) (w : World) (hv : v < 18446744073709551616) (hn : n ≤ 100) :
    Calls Try.prog 24 #[.int .u64 (v : Int), .int .i64 (n : Int)] w fun e w' => e = .returned (.slice (some ⟨w.heap.size, 0, none⟩) n n) ∧ w'.rowIs w.heap.size 5 n (byteAt (high v n)) ∧ Below w.heap.size w w' := by
  have hmk := run_make_row' (P := Try.prog) 24 5 (.int .u8 0) 1 Try.underlying24 Try.infoByte rfl .i64 .i64 n (by omega) (by omega)
  have R1 : (w.alloc (.cells (madeCells #[.int .u8 0] n) 5)).rowIs w.heap.size 5 n (byteAt fun i => if n ≤ i then high v n i else 0) := (World.rowIs_made w (.int .u8 0) n 5).congr fun i hi => by unfold byteAt; dsimp only; rw [if_neg (by omega)]; rfl
  have b1 : Below w.heap.size w (w.alloc (.cells (madeCells #[.int .u8 0] n) 5)) := (Below.refl _ _).alloc (Nat.le_refl _) _
  go_enter Try.func24, Try.ntmps24
  go_wp2_with fail
  clear hmk
  generalize w.alloc (.cells (madeCells #[.int .u8 0] n) 5) = w1 at *
  go_loopw [0, 6] (fun u i wr => ∃ (k : Nat) (z : Int), k ≤ n ∧ z = (k : Int) - 1 ∧ i = .int .i64 z ∧ u = .int .u64 ((v / 256 ^ (n - k) : Nat) : Int) ∧ wr.rowIs w.heap.size 5 n (byteAt fun i => if k ≤ i then high v n i else 0) ∧ Below w.heap.size w wr) (fun _ i _ => (intOf i + 1).toNat)
  case atStart => exact ⟨n, _, Nat.le_refl _, rfl, rfl, by rw [Nat.sub_self]; simp, R1, b1⟩
  case round =>
    clear R1 b1
    obtain ⟨k, z, hk, hz, rfl, rfl, hrow, hb⟩ := hrel
    by_cases h0 : 0 < k
    · obtain ⟨m, rfl⟩ : ∃ m, k = m + 1 := ⟨k - 1, by omega⟩
      obtain rfl : z = (m : Int) := by omega
      have lu : v / 256 ^ (n - (m + 1)) < 18446744073709551616 := Nat.lt_of_le_of_lt (Nat.div_le_self _ _) hv
      have HD : Hid (v / 256 ^ (n - m) = v / 256 ^ (n - (m + 1)) / 256) := by
        show _ = _
        rw [Nat.div_div_eq_div_mul, ← Nat.pow_succ, show n - m = n - (m + 1) + 1 by omega]
      have HS := high_set (v := v) (n := n) (k := m) (by omega) (hrow)
      have HB : Hid (Below w.heap.size w (wr.setCell ⟨w.heap.size, m, none⟩ (.int .u8 ((v / 256 ^ (n - (m + 1)) % 256 : Nat) : Int)))) := hb.setCell (Nat.le_refl _) _
      have HR : Hid ((wr.setCell ⟨w.heap.size, m, none⟩ (.int .u8 ((v / 256 ^ (n - (m + 1)) % 256 : Nat) : Int))).rowIs w.heap.size 5 n (byteAt fun i => if m ≤ i then high v n i else 0)) := HS
      obtain ⟨v3, c3⟩ : ∃ v, wr.cell? ⟨w.heap.size, m, none⟩ = some v := ⟨_, hrow.cell (by omega)⟩
      have f3 := hrow.frozen m
      have i1 : (m : Int) < (n : Int) := by omega
      generalize v / 256 ^ (n - (m + 1)) = u at *
      have e2 : (u : Int) % 256 = ((u % 256 : Nat) : Int) := by omega
      have e3 : (u : Int) / 256 = ((u / 256 : Nat) : Int) := by omega
      have l2 : u % 256 < 256 := Nat.mod_lt _ (by decide)
      generalize u % 256 = d at *
      have l3 : u / 256 < 18446744073709551616 := by omega
      generalize u / 256 = q at *
      clear hrow hb HS hz
      go_wp2
      go_roundw
      case rel => exact ⟨m, _, by omega, by go_num, rfl, by rw [HD.out], HR.out, HB.out⟩
      case measure => simp [intOf]
    · obtain rfl : k = 0 := by omega
      obtain rfl : z = -1 := by omega
      have HR : Hid (wr.rowIs w.heap.size 5 n (byteAt (high v n))) := hrow.congr fun i _ => by unfold byteAt; dsimp only; rw [if_pos (Nat.zero_le _)]
      have HB : Hid (Below w.heap.size w wr) := hb
      clear hrow hb hk h0 hz
      go_wp2
      go_ret
      exact ⟨rfl, HR.out, HB.out⟩

set_option maxRecDepth 100000 in
set_option maxHeartbeats 400000 in
theorem num_any (a : Option Addr) (n c : Nat) (x : Nat → Nat) (w : World) (hx : BytesAt w a n x) (hn : n ≤ 8) :
    Calls Try.prog 34 #[.slice a n c] w fun e w' => e = .returned (.int .u64 (Crc.numTo x n : Int)) ∧ w' = w := by
  have HX : Hid (BytesAt w a n x) := hx
  clear hx
  go_enter Try.func34, Try.ntmps34
  go_wp2_with fail
  go_loopw [3, 4] (fun r i wr => ∃ k : Nat, k ≤ n ∧ i = .int .i64 k ∧ r = .int .u64 (Crc.numTo x k : Int) ∧ wr = w) (fun _ i _ => n - (intOf i).toNat)
  case atStart => exact ⟨0, Nat.zero_le _, rfl, rfl, rfl⟩
  case round =>
    obtain ⟨k, hk, rfl, rfl, rfl⟩ := hrel
    by_cases hlt : k < n
    · obtain ⟨b1, o1, rfl, cx⟩ := HX.out.cells (by omega)
      have c1 := cx k hlt
      have lx := HX.out.lt k hlt
      have i1 : (k : Int) < (n : Int) := by omega
      have lr : Crc.numTo x k < 72057594037927936 := Nat.lt_of_lt_of_le (Crc.numTo_lt k fun i hi => HX.out.lt i (by omega)) (show 256 ^ k ≤ 256 ^ 7 from Nat.pow_le_pow_right (by decide) (by omega))
      have HE : Hid ((Crc.numTo x (k + 1) : Int) = (Crc.numTo x k : Int) * 256 + (x k : Int)) := by
        show (((Crc.numTo x k * 256 + x k : Nat)) : Int) = _
        rw [Int.natCast_add, Int.natCast_mul]; rfl
      generalize Crc.numTo x k = r at *
      generalize x k = v at *
      clear cx hk
      go_wp2
      go_roundw
      case rel => exact ⟨k + 1, by omega, by go_num, by rw [HE.out], trivial⟩
      case measure => simp [intOf]; omega
    · obtain rfl : k = n := by omega
      clear hlt hk
      go_wp2
      go_ret
      exact ⟨rfl, rfl⟩
end Go.Proofs.Ytcflaklnafggmaa

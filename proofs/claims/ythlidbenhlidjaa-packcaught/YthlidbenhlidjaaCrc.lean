/-
  The sum's register: what a move makes of it, what bytes do, that it is a sum over bits and that nothing is lost. Plain mathematics: nothing here speaks of a program.
-/
namespace Go.Proofs.Ythlidbenhlidjaa.Crc

def P : Nat := 79764919
def ones : Nat := 4294967295
/-- The register, moved up by one. -/
def mv (r : Nat) : Nat := if r < 2147483648 then 2 * r else (2 * r - 4294967296) ^^^ P
/-- .. n times. -/
def mvs : Nat → Nat → Nat
  | 0, r => r
  | n + 1, r => mv (mvs n r)
/-- What a byte makes of the register. -/
def st (r x : Nat) : Nat := mvs 8 (r ^^^ (x * 16777216))
/-- The register that was r, behind n bytes of x. -/
def reg (r : Nat) (x : Nat → Nat) : Nat → Nat
  | 0 => r
  | n + 1 => st (reg r x n) (x n)
/-- The sum of n bytes. -/
def sum (x : Nat → Nat) (n : Nat) : Nat := reg ones x n

theorem xor_lt {a b : Nat} (ha : a < 4294967296) (hb : b < 4294967296) : a ^^^ b < 4294967296 := Nat.xor_lt_two_pow (n := 32) ha hb
theorem P_lt : P < 4294967296 := by decide
theorem mv_lt {r : Nat} (h : r < 4294967296) : mv r < 4294967296 := by
  unfold mv
  split
  · omega
  · exact xor_lt (by omega) P_lt
theorem mvs_lt {r : Nat} (n : Nat) (h : r < 4294967296) : mvs n r < 4294967296 := by
  induction n with
  | zero => exact h
  | succ n ih => exact mv_lt ih
theorem st_lt {r x : Nat} (h : r < 4294967296) (hx : x < 256) : st r x < 4294967296 := mvs_lt 8 (xor_lt h (by omega))
theorem reg_lt {r : Nat} {x : Nat → Nat} (n : Nat) (h : r < 4294967296) (hx : ∀ i, i < n → x i < 256) : reg r x n < 4294967296 := by
  induction n with
  | zero => exact h
  | succ n ih => exact st_lt (ih fun i hi => hx i (by omega)) (hx n (by omega))
theorem ones_lt : ones < 4294967296 := by decide
theorem sum_lt {x : Nat → Nat} (n : Nat) (hx : ∀ i, i < n → x i < 256) : sum x n < 4294967296 := reg_lt n ones_lt hx

theorem xor4 (a b c d : Nat) : (a ^^^ b) ^^^ (c ^^^ d) = (a ^^^ c) ^^^ (b ^^^ d) := by
  rw [Nat.xor_assoc, Nat.xor_assoc, ← Nat.xor_assoc b c d, Nat.xor_comm b c, Nat.xor_assoc c b d]
theorem mv_eq {r : Nat} (h : r < 4294967296) : mv r = (2 * r % 4294967296) ^^^ (r / 2147483648 * P) := by
  unfold mv
  split
  · rw [show r / 2147483648 = 0 by omega, Nat.mod_eq_of_lt (by omega)]; simp
  · rw [show r / 2147483648 = 1 by omega, show 2 * r % 4294967296 = 2 * r - 4294967296 by omega, Nat.one_mul]
theorem dbl_xor (a b : Nat) : 2 * (a ^^^ b) % 4294967296 = (2 * a % 4294967296) ^^^ (2 * b % 4294967296) := by
  have h1 : 2 * (a ^^^ b) = (2 * a) ^^^ (2 * b) := by
    have := Nat.shiftLeft_xor_distrib (a := a) (b := b) (i := 1)
    simpa [Nat.shiftLeft_eq, Nat.mul_comm] using this
  rw [h1]
  have := Nat.xor_mod_two_pow (a := 2 * a) (b := 2 * b) (n := 32)
  simpa using this
theorem top_xor (a b : Nat) : (a ^^^ b) / 2147483648 = (a / 2147483648) ^^^ (b / 2147483648) := by
  have := Nat.xor_div_two_pow (a := a) (b := b) (n := 31); simpa using this
theorem mv_xor {a b : Nat} (ha : a < 4294967296) (hb : b < 4294967296) : mv (a ^^^ b) = mv a ^^^ mv b := by
  rw [mv_eq (xor_lt ha hb), mv_eq ha, mv_eq hb, dbl_xor, top_xor, xor4 (2 * a % 4294967296) _ (2 * b % 4294967296) _]
  have h1 : a / 2147483648 = 0 ∨ a / 2147483648 = 1 := by omega
  have h2 : b / 2147483648 = 0 ∨ b / 2147483648 = 1 := by omega
  rcases h1 with h1 | h1 <;> rcases h2 with h2 | h2 <;> rw [h1, h2] <;> congr 1
theorem mvs_xor {a b : Nat} (n : Nat) (ha : a < 4294967296) (hb : b < 4294967296) : mvs n (a ^^^ b) = mvs n a ^^^ mvs n b := by
  induction n with
  | zero => rfl
  | succ n ih =>
    show mv (mvs n (a ^^^ b)) = mv (mvs n a) ^^^ mv (mvs n b)
    rw [ih, mv_xor (mvs_lt n ha) (mvs_lt n hb)]
theorem up_xor (a b : Nat) : (a ^^^ b) * 16777216 = (a * 16777216) ^^^ (b * 16777216) := by
  have := Nat.shiftLeft_xor_distrib (a := a) (b := b) (i := 24)
  simpa [Nat.shiftLeft_eq] using this
theorem st_xor {a b x y : Nat} (ha : a < 4294967296) (hb : b < 4294967296) (hx : x < 256) (hy : y < 256) : st (a ^^^ b) (x ^^^ y) = st a x ^^^ st b y := by
  unfold st
  rw [up_xor, xor4, mvs_xor 8 (xor_lt ha (by omega)) (xor_lt hb (by omega))]
theorem reg_xor {a b : Nat} {x y : Nat → Nat} (n : Nat) (ha : a < 4294967296) (hb : b < 4294967296) (hx : ∀ i, i < n → x i < 256) (hy : ∀ i, i < n → y i < 256) : reg (a ^^^ b) (fun i => x i ^^^ y i) n = reg a x n ^^^ reg b y n := by
  induction n with
  | zero => rfl
  | succ n ih =>
    show st (reg (a ^^^ b) (fun i => x i ^^^ y i) n) (x n ^^^ y n) = st (reg a x n) (x n) ^^^ st (reg b y n) (y n)
    rw [ih (fun i hi => hx i (by omega)) (fun i hi => hy i (by omega)), st_xor (reg_lt n ha fun i hi => hx i (by omega)) (reg_lt n hb fun i hi => hy i (by omega)) (hx n (by omega)) (hy n (by omega))]
theorem reg_congr {r : Nat} {x y : Nat → Nat} (n : Nat) (h : ∀ i, i < n → x i = y i) : reg r x n = reg r y n := by
  induction n with
  | zero => rfl
  | succ n ih =>
    show st (reg r x n) (x n) = st (reg r y n) (y n)
    rw [ih fun i hi => h i (by omega), h n (by omega)]
theorem sum_congr {x y : Nat → Nat} (n : Nat) (h : ∀ i, i < n → x i = y i) : sum x n = sum y n := reg_congr n h
/-- Of texts of one length, the sum of what is unlike in them is what is unlike in their sums, noughts' sum aside. -/
theorem sum_xor {x y : Nat → Nat} (n : Nat) (hx : ∀ i, i < n → x i < 256) (hy : ∀ i, i < n → y i < 256) : sum x n ^^^ sum y n = sum (fun i => x i ^^^ y i) n ^^^ sum (fun _ => 0) n := by
  unfold sum
  rw [← reg_xor n ones_lt ones_lt hx hy, ← reg_xor n ones_lt ones_lt (fun i hi => Nat.xor_lt_two_pow (n := 8) (hx i hi) (hy i hi)) (fun _ _ => by decide)]
  exact reg_congr n fun i _ => (Nat.xor_zero _).symm

/-! ### nothing is lost -/
theorem P_odd (a : Nat) : ((2 * a) ^^^ P) % 2 = 1 := by
  have := Nat.xor_mod_two_pow (a := 2 * a) (b := P) (n := 1)
  simp only [Nat.pow_one] at this
  rw [this, show 2 * a % 2 = 0 by omega]
  decide
theorem mv_inj {a b : Nat} (ha : a < 4294967296) (hb : b < 4294967296) (h : mv a = mv b) : a = b := by
  have od : ∀ r, 2147483648 ≤ r → (2 * r - 4294967296) = 2 * (r - 2147483648) := fun r _ => by omega
  unfold mv at h
  split at h <;> split at h
  · omega
  · rename_i h1 h2
    have := P_odd (b - 2147483648)
    rw [← od b (by omega), ← h] at this
    omega
  · rename_i h1 h2
    have := P_odd (a - 2147483648)
    rw [← od a (by omega), h] at this
    omega
  · have h3 : ((2 * a - 4294967296) ^^^ P) ^^^ P = ((2 * b - 4294967296) ^^^ P) ^^^ P := by rw [h]
    rw [Nat.xor_assoc, Nat.xor_assoc, Nat.xor_self, Nat.xor_zero, Nat.xor_zero] at h3
    omega
theorem mvs_inj {a b : Nat} (n : Nat) (ha : a < 4294967296) (hb : b < 4294967296) (h : mvs n a = mvs n b) : a = b := by
  induction n with
  | zero => exact h
  | succ n ih => exact ih (mv_inj (mvs_lt n ha) (mvs_lt n hb) h)
theorem xor_left {a b c : Nat} (h : a ^^^ c = b ^^^ c) : a = b := by
  have h3 : (a ^^^ c) ^^^ c = (b ^^^ c) ^^^ c := by rw [h]
  rwa [Nat.xor_assoc, Nat.xor_assoc, Nat.xor_self, Nat.xor_zero, Nat.xor_zero] at h3
theorem xor_right {a b c : Nat} (h : c ^^^ a = c ^^^ b) : a = b := by rw [Nat.xor_comm c a, Nat.xor_comm c b] at h; exact xor_left h
theorem st_inj {a b x : Nat} (ha : a < 4294967296) (hb : b < 4294967296) (hx : x < 256) (h : st a x = st b x) : a = b :=
  xor_left (mvs_inj 8 (xor_lt ha (by omega)) (xor_lt hb (by omega)) h)
theorem st_inj_byte {r x y : Nat} (hr : r < 4294967296) (hx : x < 256) (hy : y < 256) (h : st r x = st r y) : x = y := by
  have := xor_right (mvs_inj 8 (xor_lt hr (by omega)) (xor_lt hr (by omega)) h)
  omega
/-- One byte that is another is told. -/
theorem reg_turned {r : Nat} {x y : Nat → Nat} (n j : Nat) (hj : j < n) (hr : r < 4294967296) (hx : ∀ i, i < n → x i < 256) (hy : ∀ i, i < n → y i < 256) (e : ∀ i, i < n → i ≠ j → x i = y i) (hne : x j ≠ y j) : reg r x n ≠ reg r y n := by
  induction n with
  | zero => omega
  | succ n ih =>
    intro h
    have h : st (reg r x n) (x n) = st (reg r y n) (y n) := h
    have lx := reg_lt (x := x) n hr fun i hi => hx i (by omega)
    have ly := reg_lt (x := y) n hr fun i hi => hy i (by omega)
    by_cases hjn : j = n
    · subst hjn
      rw [reg_congr (x := x) (y := y) j fun i hi => e i (by omega) (by omega)] at h
      exact hne (st_inj_byte ly (hx j (by omega)) (hy j (by omega)) h)
    · rw [e n (by omega) (fun h => hjn h.symm)] at h
      exact ih (by omega) (fun i hi => hx i (by omega)) (fun i hi => hy i (by omega)) (fun i hi => e i (by omega)) (st_inj lx ly (hy n (by omega)) h)
theorem sum_turned {x y : Nat → Nat} (n j : Nat) (hj : j < n) (hx : ∀ i, i < n → x i < 256) (hy : ∀ i, i < n → y i < 256) (e : ∀ i, i < n → i ≠ j → x i = y i) (hne : x j ≠ y j) : sum x n ≠ sum y n :=
  reg_turned n j hj ones_lt hx hy e hne

/-! ### a table's look -/
/-- What stands in the table at i. -/
def tab (i : Nat) : Nat := mvs 8 (i * 16777216)
theorem tab_lt (i : Nat) (h : i < 256) : tab i < 4294967296 := mvs_lt 8 (by omega)
theorem mv_low {r : Nat} (h : r < 2147483648) : mv r = 2 * r := if_pos h
theorem mvs_low {r : Nat} (h : r < 16777216) : mvs 8 r = 256 * r := by
  show mv (mv (mv (mv (mv (mv (mv (mv r))))))) = _
  rw [mv_low (r := r) (by omega), mv_low (r := 2 * r) (by omega), mv_low (r := 2 * (2 * r)) (by omega), mv_low (r := 2 * (2 * (2 * r))) (by omega), mv_low (r := 2 * (2 * (2 * (2 * r)))) (by omega),
    mv_low (r := 2 * (2 * (2 * (2 * (2 * r))))) (by omega), mv_low (r := 2 * (2 * (2 * (2 * (2 * (2 * r)))))) (by omega), mv_low (r := 2 * (2 * (2 * (2 * (2 * (2 * (2 * r))))))) (by omega)]
  omega
/-- The register by its highest byte and the rest. -/
theorem parted (r : Nat) : r = (r / 16777216 * 16777216) ^^^ (r % 16777216) := by
  have h := Nat.two_pow_add_eq_or_of_lt (i := 24) (b := r % 16777216) (by omega) (r / 16777216)
  have h2 : (2 ^ 24 * (r / 16777216)) ^^^ (r % 16777216) = 2 ^ 24 * (r / 16777216) + r % 16777216 := by
    rw [h]
    apply Nat.eq_of_testBit_eq
    intro i
    rw [Nat.testBit_xor, Nat.testBit_or, Nat.testBit_two_pow_mul]
    by_cases g : i < 24
    · simp [show ¬ 24 ≤ i by omega]
    · have : (r % 16777216).testBit i = false := Nat.testBit_lt_two_pow (Nat.lt_of_lt_of_le (Nat.mod_lt _ (by decide)) (Nat.pow_le_pow_right (n := 2) (by decide) (show 24 ≤ i by omega)))
      simp [this]
  rw [Nat.mul_comm (r / 16777216), show (16777216 : Nat) = 2 ^ 24 from rfl] at *
  rw [h2]
  exact (Nat.div_add_mod r (2 ^ 24)).symm
/-- One look into the table is eight moves. -/
theorem st_tab {r x : Nat} (h : r < 4294967296) (hx : x < 256) : st r x = (r * 256 % 4294967296) ^^^ tab (r / 16777216 ^^^ x) := by
  have hq : r / 16777216 ^^^ x < 256 := Nat.xor_lt_two_pow (n := 8) (by omega) hx
  have e : r ^^^ (x * 16777216) = ((r / 16777216 ^^^ x) * 16777216) ^^^ (r % 16777216) := by
    conv => lhs; rw [parted r]
    rw [up_xor, Nat.xor_assoc, Nat.xor_assoc, Nat.xor_comm (r % 16777216)]
  unfold st tab
  rw [e, mvs_xor 8 (by omega) (by omega), mvs_low (r := r % 16777216) (by omega), Nat.xor_comm, show 256 * (r % 16777216) = r * 256 % 4294967296 by omega]

theorem sum_succ (x : Nat → Nat) (n : Nat) : sum x (n + 1) = st (sum x n) (x n) := rfl
theorem sum_zero (x : Nat → Nat) : sum x 0 = 4294967295 := rfl
theorem sum_tab {x : Nat → Nat} {n : Nat} (hx : ∀ i, i < n + 1 → x i < 256) : sum x (n + 1) = (sum x n * 256 % 4294967296) ^^^ tab (sum x n / 16777216 ^^^ x n) := by
  rw [sum_succ, st_tab (sum_lt n fun i hi => hx i (by omega)) (hx n (by omega))]

/-! ### a sum in four bytes -/
/-- The i-th byte of r, the highest first. -/
def byt (r i : Nat) : Nat := if i = 0 then r / 16777216 % 256 else if i = 1 then r / 65536 % 256 else if i = 2 then r / 256 % 256 else r % 256
theorem byt_lt (r i : Nat) : byt r i < 256 := by unfold byt; repeat' split
                                                 all_goals omega
/-- The number that four bytes are. -/
def num (x : Nat → Nat) : Nat := ((x 0 * 256 + x 1) * 256 + x 2) * 256 + x 3
theorem num_byt {r : Nat} (h : r < 4294967296) : num (byt r) = r := by unfold num byt; simp; omega
theorem num_inj {x y : Nat → Nat} (hx : ∀ i, i < 4 → x i < 256) (hy : ∀ i, i < 4 → y i < 256) (h : num x = num y) : ∀ i, i < 4 → x i = y i := by
  have a0 := hx 0 (by decide); have a1 := hx 1 (by decide); have a2 := hx 2 (by decide); have a3 := hx 3 (by decide)
  have b0 := hy 0 (by decide); have b1 := hy 1 (by decide); have b2 := hy 2 (by decide); have b3 := hy 3 (by decide)
  unfold num at h
  intro i hi
  match i, hi with
  | 0, _ => omega
  | 1, _ => omega
  | 2, _ => omega
  | 3, _ => omega
theorem num_congr {x y : Nat → Nat} (h : ∀ i, i < 4 → x i = y i) : num x = num y := by
  unfold num; rw [h 0 (by decide), h 1 (by decide), h 2 (by decide), h 3 (by decide)]
/-- The number that n bytes are, the highest first. -/
def numTo (x : Nat → Nat) : Nat → Nat
  | 0 => 0
  | n + 1 => numTo x n * 256 + x n
theorem numTo_four (x : Nat → Nat) : numTo x 4 = num x := by
  show (((0 * 256 + x 0) * 256 + x 1) * 256 + x 2) * 256 + x 3 = _
  unfold num
  omega
theorem numTo_lt {x : Nat → Nat} (n : Nat) (hx : ∀ i, i < n → x i < 256) : numTo x n < 256 ^ n := by
  induction n with
  | zero => exact Nat.one_pos
  | succ n ih =>
    have h := ih fun i hi => hx i (by omega)
    have := hx n (by omega)
    rw [Nat.pow_succ]
    show numTo x n * 256 + x n < _
    omega
/-- n bytes, sealed. -/
def seald (x : Nat → Nat) (n i : Nat) : Nat := if i < n then x i else byt (sum x n) (i - n)
theorem seal_lt {x : Nat → Nat} {n : Nat} (hx : ∀ i, i < n → x i < 256) (i : Nat) : seald x n i < 256 := by
  unfold seald; split
  · exact hx i (by assumption)
  · exact byt_lt _ _
/-- n bytes and four behind them: sealed? -/
def ok (y : Nat → Nat) (n : Nat) : Prop := num (fun i => y (n + i)) = sum y n
instance (y : Nat → Nat) (n : Nat) : Decidable (ok y n) := by unfold ok; infer_instance
theorem ok_seal {x : Nat → Nat} {n : Nat} (hx : ∀ i, i < n → x i < 256) : ok (seald x n) n := by
  unfold ok
  rw [sum_congr (x := seald x n) (y := x) n (fun i hi => if_pos hi), num_congr (y := byt (sum x n)) fun i hi => by unfold seald; rw [if_neg (by omega), Nat.add_sub_cancel_left], num_byt (sum_lt n hx)]
theorem ok_congr {x y : Nat → Nat} {n : Nat} (h : ∀ i, i < n + 4 → x i = y i) : ok x n ↔ ok y n := by
  unfold ok
  rw [sum_congr (y := y) n fun i hi => h i (by omega), num_congr (y := fun i => y (n + i)) fun i hi => h (n + i) (by omega)]
/-- One byte of sealed ones that is another is told. -/
theorem ok_turned {x y : Nat → Nat} {n j : Nat} (hj : j < n + 4) (hx : ∀ i, i < n + 4 → x i < 256) (hy : ∀ i, i < n + 4 → y i < 256) (e : ∀ i, i < n + 4 → i ≠ j → x i = y i) (hne : x j ≠ y j) (hok : ok x n) : ¬ ok y n := by
  intro h
  unfold ok at hok h
  by_cases hjn : j < n
  · refine sum_turned n j hjn (fun i hi => hx i (by omega)) (fun i hi => hy i (by omega)) (fun i hi => e i (by omega)) hne ?_
    rw [← hok, ← h]
    exact num_congr fun i hi => e (n + i) (by omega) (by omega)
  · have hs : sum x n = sum y n := sum_congr n fun i hi => e i (by omega) (by omega)
    have := num_inj (fun i hi => hx (n + i) (by omega)) (fun i hi => hy (n + i) (by omega)) (hok.trans (hs.trans h.symm)) (j - n) (by omega)
    rw [show n + (j - n) = j by omega] at this
    exact hne this
end Go.Proofs.Ythlidbenhlidjaa.Crc

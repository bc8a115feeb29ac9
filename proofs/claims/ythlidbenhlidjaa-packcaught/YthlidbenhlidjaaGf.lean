/-
  The bytes as a field of 256: tables of the root's powers and logs, the product bit by bit, and the laws of the field. Plain mathematics: nothing here speaks of a program.
-/
namespace Go.Proofs.Ythlidbenhlidjaa.Gf

def pwT : Nat := 70160881166704368827218703435136616750530459438269794890424969378298545675077208731798828898087927652446353395360628748027273188182808436399538186061104243134188885576122562338679313492324190829158544377810568631194580132524405266702234305646236648896994794467054525044798919765581988418950285252905306116225263236585714808161311289784028762024137133735135393922581566890382566480334369299400480864790538739986285574563168380416343369614948461817839620668187777978661530364712890858126432457562886306102556561631759900551331094983229723298224611133722330829711659991602983068895685602467964643306841827719562658305
def lgT : Nat := 22135253156888987530748098150270024343632497605293634117281264061560962248099620766229961468867162294233796152347975563017024165690400661622462404646302566225833645086064538892198543335321514950294300187779610338557442029018619797274438901674641748676613670242915365385819254959901651105240253464034662486586186382979728982817772067067513442677601938078891989292316012868233806586592927239821351197800766822366321181463280924672822998103315976779850880337712374790938628529953751181886374687897611504386983350015558142994211516619836411558782076806704747441947939324473761869443721989389604670425385080942269787340800
/-- The root's n-th power, n below 510 or any other. -/
def pw (n : Nat) : Nat := (pwT >>> (8 * (n % 255))) % 256
def lg (a : Nat) : Nat := (lgT >>> (8 * a)) % 256
/-- a times the root. -/
def dbl (a : Nat) : Nat := if a < 128 then 2 * a else (2 * a) ^^^ 285
/-- The product by logs. -/
def mul (a b : Nat) : Nat := if a = 0 ∨ b = 0 then 0 else pw (lg a + lg b)
def inv (a : Nat) : Nat := if a = 0 then 0 else pw (255 - lg a)
/-- The product bit by bit, n bits of y. -/
def mulBits : Nat → Nat → Nat → Nat
  | 0, _, _ => 0
  | n + 1, x, y => (if y % 2 = 1 then x else 0) ^^^ mulBits n (dbl x) (y / 2)

theorem all_of {n : Nat} {p : Nat → Bool} (h : (List.range n).all p = true) (i : Nat) (hi : i < n) : p i = true :=
  List.all_eq_true.1 h i (List.mem_range.2 hi)

theorem pw_zero : pw 0 = 1 := by decide +kernel
theorem pw_lt (n : Nat) : pw n < 256 := Nat.mod_lt _ (by decide)
theorem lg_lt256 (a : Nat) : lg a < 256 := Nat.mod_lt _ (by decide)
theorem pw_mod (n : Nat) : pw (n % 255) = pw n := by unfold pw; rw [Nat.mod_mod]
theorem pw_add255 (n : Nat) : pw (n + 255) = pw n := by unfold pw; rw [Nat.add_mod_right]
theorem lg_pw_small (n : Nat) (h : n < 255) : lg (pw n) = n := by
  have := all_of (n := 255) (p := fun n => lg (pw n) == n) (by decide +kernel) n h
  simpa using this
theorem lg_pw (n : Nat) : lg (pw n) = n % 255 := by
  rw [← pw_mod]; exact lg_pw_small _ (Nat.mod_lt _ (by decide))
theorem lg_lt (a : Nat) (h : a < 256) : lg a < 255 := by
  have := all_of (n := 256) (p := fun a => decide (lg a < 255)) (by decide +kernel) a h
  simpa using this
theorem pw_lg (a : Nat) (h : a < 256) (h0 : a ≠ 0) : pw (lg a) = a := by
  have := all_of (n := 256) (p := fun a => a == 0 || pw (lg a) == a) (by decide +kernel) a h
  simpa [h0] using this
theorem pw_pos (n : Nat) : pw n ≠ 0 := by
  have := all_of (n := 255) (p := fun n => pw n != 0) (by decide +kernel) (n % 255) (Nat.mod_lt _ (by decide))
  rw [pw_mod] at this
  simpa using this
theorem lg_zero : lg 0 = 0 := by decide +kernel
theorem pw_succ (n : Nat) : pw (n + 1) = dbl (pw n) := by
  have := all_of (n := 255) (p := fun n => pw (n + 1) == dbl (pw n)) (by decide +kernel) (n % 255) (Nat.mod_lt _ (by decide))
  have e : pw (n % 255 + 1) = pw (n + 1) := by rw [← pw_mod (n % 255 + 1), ← pw_mod (n + 1), Nat.mod_add_mod]
  rw [pw_mod, e] at this
  simpa using this
theorem dbl_lt (a : Nat) (h : a < 256) : dbl a < 256 := by
  have := all_of (n := 256) (p := fun a => decide (dbl a < 256)) (by decide +kernel) a h
  simpa using this

theorem mul_lt (a b : Nat) : mul a b < 256 := by unfold mul; split; omega; exact pw_lt _
theorem inv_lt (a : Nat) : inv a < 256 := by unfold inv; split; omega; exact pw_lt _
theorem mul_comm (a b : Nat) : mul a b = mul b a := by
  unfold mul
  by_cases h : a = 0 ∨ b = 0
  · rw [if_pos h, if_pos h.symm]
  · rw [if_neg h, if_neg (fun g => h g.symm), Nat.add_comm]
theorem mul_zero (a : Nat) : mul a 0 = 0 := by unfold mul; rw [if_pos (Or.inr rfl)]
theorem zero_mul (a : Nat) : mul 0 a = 0 := by unfold mul; rw [if_pos (Or.inl rfl)]
theorem mul_ne (a b : Nat) (ha : a ≠ 0) (hb : b ≠ 0) : mul a b = pw (lg a + lg b) := by
  unfold mul; rw [if_neg (fun h => h.elim ha hb)]
theorem mul_eq_zero (a b : Nat) : mul a b = 0 ↔ a = 0 ∨ b = 0 := by
  unfold mul
  by_cases h : a = 0 ∨ b = 0
  · simp [h]
  · rw [if_neg h]; exact ⟨fun g => absurd g (pw_pos _), fun g => absurd g h⟩
theorem pw_add_congr (m n k : Nat) (h : m % 255 = n % 255) : pw (m + k) = pw (n + k) := by
  rw [← pw_mod (m + k), ← pw_mod (n + k), Nat.add_mod, h, ← Nat.add_mod]
theorem pw_congr (m n : Nat) (h : m % 255 = n % 255) : pw m = pw n := by rw [← pw_mod m, h, pw_mod]
theorem mul_pw (m n : Nat) : mul (pw m) (pw n) = pw (m + n) := by
  rw [mul_ne _ _ (pw_pos _) (pw_pos _), lg_pw, lg_pw]
  exact pw_congr _ _ (by omega)
theorem mul_assoc (a b c : Nat) : mul a (mul b c) = mul (mul a b) c := by
  by_cases ha : a = 0
  · subst ha; simp [zero_mul]
  by_cases hb : b = 0
  · subst hb; simp [zero_mul, mul_zero]
  by_cases hc : c = 0
  · subst hc; simp [mul_zero]
  rw [mul_ne b c hb hc, mul_ne a b ha hb, mul_ne _ c (pw_pos _) hc, mul_ne a _ ha (pw_pos _), lg_pw, lg_pw]
  exact pw_congr _ _ (by omega)
theorem mul_one (a : Nat) (h : a < 256) : mul a 1 = a := by
  by_cases ha : a = 0
  · subst ha; exact zero_mul 1
  · rw [mul_ne a 1 ha (by decide), show lg 1 = 0 by decide +kernel, Nat.add_zero, pw_lg a h ha]
theorem mul_inv (a : Nat) (h : a < 256) (h0 : a ≠ 0) : mul a (inv a) = 1 := by
  have hl := lg_lt a h
  unfold inv; rw [if_neg h0, mul_ne a _ h0 (pw_pos _), lg_pw, ← pw_zero]
  exact pw_congr _ _ (by omega)

/-! ### bit by bit -/
theorem xor4 (a b c d : Nat) : (a ^^^ b) ^^^ (c ^^^ d) = (a ^^^ c) ^^^ (b ^^^ d) := by
  rw [Nat.xor_assoc, Nat.xor_assoc, ← Nat.xor_assoc b c d, Nat.xor_comm b c, Nat.xor_assoc c b d]
theorem dbl_eq (a : Nat) (h : a < 256) : dbl a = (2 * a) ^^^ ((a / 128) * 285) := by
  unfold dbl
  split
  · rw [show a / 128 = 0 by omega]; simp
  · rw [show a / 128 = 1 by omega]
theorem dbl_xor (a b : Nat) (ha : a < 256) (hb : b < 256) : dbl (a ^^^ b) = dbl a ^^^ dbl b := by
  have hx : a ^^^ b < 256 := Nat.xor_lt_two_pow (n := 8) ha hb
  have e2 : 2 * (a ^^^ b) = (2 * a) ^^^ (2 * b) := by
    have := Nat.shiftLeft_xor_distrib (a := a) (b := b) (i := 1)
    simpa [Nat.shiftLeft_eq, Nat.mul_comm] using this
  have e3 : (a ^^^ b) / 128 = (a / 128) ^^^ (b / 128) := by
    have := Nat.xor_div_two_pow (a := a) (b := b) (n := 7); simpa using this
  rw [dbl_eq _ hx, dbl_eq _ ha, dbl_eq _ hb, e2, e3]
  have h1 : a / 128 = 0 ∨ a / 128 = 1 := by omega
  have h2 : b / 128 = 0 ∨ b / 128 = 1 := by omega
  rw [xor4 (2 * a) _ (2 * b) _]
  rcases h1 with h1 | h1 <;> rcases h2 with h2 | h2 <;> rw [h1, h2] <;> congr 1
theorem mulBits_lt (n : Nat) : ∀ x y, x < 256 → mulBits n x y < 256 := by
  induction n with
  | zero => intro x y _; show 0 < 256; decide
  | succ n ih =>
    intro x y hx
    unfold mulBits
    refine Nat.xor_lt_two_pow (n := 8) ?_ (ih _ _ (dbl_lt x hx))
    split <;> omega
theorem mod2_xor (y z : Nat) : (y ^^^ z) % 2 = (y % 2 + z % 2) % 2 := by
  have e : (y ^^^ z) % 2 = (y % 2) ^^^ (z % 2) := by
    have := Nat.xor_mod_two_pow (a := y) (b := z) (n := 1); simpa using this
  rw [e]
  rcases Nat.mod_two_eq_zero_or_one y with h | h <;> rcases Nat.mod_two_eq_zero_or_one z with g | g <;> rw [h, g] <;> decide
theorem div2_xor (y z : Nat) : (y ^^^ z) / 2 = (y / 2) ^^^ (z / 2) := by
  have := Nat.xor_div_two_pow (a := y) (b := z) (n := 1); simpa using this
theorem mulBits_xor (n : Nat) : ∀ x y z, mulBits n x (y ^^^ z) = mulBits n x y ^^^ mulBits n x z := by
  induction n with
  | zero => intro x y z; show 0 = 0 ^^^ 0; decide
  | succ n ih =>
    intro x y z
    unfold mulBits
    rw [div2_xor, ih, xor4]
    congr 1
    rw [mod2_xor]
    rcases Nat.mod_two_eq_zero_or_one y with h | h <;> rcases Nat.mod_two_eq_zero_or_one z with g | g <;> simp [h, g]
theorem mulBits_dbl (n : Nat) : ∀ x y, x < 256 → mulBits n (dbl x) y = dbl (mulBits n x y) := by
  induction n with
  | zero => intro x y _; show 0 = dbl 0; decide
  | succ n ih =>
    intro x y hx
    have hd := dbl_lt x hx
    unfold mulBits
    rw [dbl_xor _ _ (by split <;> omega) (mulBits_lt n _ _ hd), ih _ _ hd]
    congr 1
    split <;> first | rfl | decide
theorem mulBits_one (y : Nat) (h : y < 256) : mulBits 8 1 y = y := by
  have := all_of (n := 256) (p := fun y => mulBits 8 1 y == y) (by decide +kernel) y h
  simpa using this
theorem mulBits_pw (m n : Nat) : mulBits 8 (pw m) (pw n) = pw (m + n) := by
  induction m with
  | zero => rw [pw_zero, mulBits_one _ (pw_lt n), Nat.zero_add]
  | succ m ih => rw [pw_succ, mulBits_dbl 8 _ _ (pw_lt m), ih, ← pw_succ, Nat.add_right_comm]
theorem mulBits_zero (n : Nat) : ∀ x, mulBits n x 0 = 0 := by
  induction n with
  | zero => intro x; rfl
  | succ n ih => intro x; unfold mulBits; rw [if_neg (by decide), show 0 / 2 = 0 from rfl, ih]; decide
theorem zero_mulBits (n : Nat) : ∀ y, mulBits n 0 y = 0 := by
  induction n with
  | zero => intro y; rfl
  | succ n ih => intro y; unfold mulBits; rw [show dbl 0 = 0 from rfl, ih]; simp
theorem mul_eq_mulBits (a b : Nat) (ha : a < 256) (hb : b < 256) : mul a b = mulBits 8 a b := by
  by_cases h : a = 0
  · subst h; rw [zero_mul, zero_mulBits]
  by_cases g : b = 0
  · subst g; rw [mul_zero, mulBits_zero]
  rw [← pw_lg a ha h, ← pw_lg b hb g, mul_pw, mulBits_pw]
theorem xor_lt (a b : Nat) (ha : a < 256) (hb : b < 256) : a ^^^ b < 256 := Nat.xor_lt_two_pow (n := 8) ha hb
theorem mul_xor (a b c : Nat) (ha : a < 256) (hb : b < 256) (hc : c < 256) : mul a (b ^^^ c) = mul a b ^^^ mul a c := by
  rw [mul_eq_mulBits a _ ha (xor_lt b c hb hc), mul_eq_mulBits a b ha hb, mul_eq_mulBits a c ha hc, mulBits_xor]
theorem xor_mul (a b c : Nat) (ha : a < 256) (hb : b < 256) (hc : c < 256) : mul (a ^^^ b) c = mul a c ^^^ mul b c := by
  rw [mul_comm, mul_xor c a b hc ha hb, mul_comm c a, mul_comm c b]

#print axioms mul_xor
end Go.Proofs.Ythlidbenhlidjaa.Gf

/-
  The document's answers of layer 1 (products bit by bit; inverses, powers and logs by trying), as contracts over the tables of Gf.
-/
import Derived.Test.YthlidbenhlidjaaBeg
namespace Go.Proofs.Ythlidbenhlidjaa
open Go.RowKit Go.Deep

theorem i64_xor_nat (a b : Nat) (ha : a < 9223372036854775808) (hb : b < 9223372036854775808) : bits .xor .i64 (a : Int) (b : Int) = ((a ^^^ b : Nat) : Int) := by
  have hx : a ^^^ b < 2 ^ 63 := Nat.xor_lt_two_pow (by omega) (by omega)
  show IntKind.i64.wrap ((BitVec.ofInt 64 (a : Int) ^^^ BitVec.ofInt 64 (b : Int)).toNat : Int) = _
  rw [BitVec.toNat_xor, ofInt_u64 a (by omega), ofInt_u64 b (by omega)]
  simp [IntKind.wrap, IntKind.bits, IntKind.signed]
  omega

theorem bits_odd (f X Y p R : Nat) (h : p ^^^ Gf.mulBits (f + 1) X Y = R) (ho : Y % 2 = 1) : (p ^^^ X) ^^^ Gf.mulBits f (Gf.dbl X) (Y / 2) = R := by
  rw [← h]
  show _ = p ^^^ ((if Y % 2 = 1 then X else 0) ^^^ Gf.mulBits f (Gf.dbl X) (Y / 2))
  rw [if_pos ho, Nat.xor_assoc]
theorem bits_even (f X Y p R : Nat) (h : p ^^^ Gf.mulBits (f + 1) X Y = R) (ho : Y % 2 ≠ 1) : p ^^^ Gf.mulBits f (Gf.dbl X) (Y / 2) = R := by
  rw [← h]
  show _ = p ^^^ ((if Y % 2 = 1 then X else 0) ^^^ Gf.mulBits f (Gf.dbl X) (Y / 2))
  rw [if_neg ho, Nat.zero_xor]
theorem dbl_hi2 (X : Nat) (hX : X < 256) (h : 128 ≤ X) : bits .xor .i64 (2 * (X : Int)) 285 = (Gf.dbl X : Int) := by
  have := i64_xor_nat (2 * X) 285 (by omega) (by omega)
  unfold Gf.dbl
  rw [if_neg (by omega), ← this]
  rfl
theorem dbl_lo2 (X : Nat) (h : X < 128) : 2 * (X : Int) = (Gf.dbl X : Int) := by
  unfold Gf.dbl; rw [if_pos h]; omega
theorem val_int {k : IntKind} {a b : Int} (h : a = b) : Value.int k a = .int k b := by rw [h]

set_option maxRecDepth 100000 in
set_option maxHeartbeats 400000 in
theorem rmul_any (a b : Nat) (ha : a < 256) (hb : b < 256) (w : World) :
    Calls Try.prog 39 #[.int .u8 a, .int .u8 b] w fun e w' => e = .returned (.int .u8 (Gf.mul a b)) ∧ w' = w := by
  have HR : Hid (Gf.mul a b = Gf.mulBits 8 a b) := Gf.mul_eq_mulBits a b ha hb
  have hl := Gf.mul_lt a b
  generalize Gf.mul a b = R at *
  go_enter Try.func39, Try.ntmps39
  go_wp2
  go_loop [5, 6, 7] (fun x y p => ∃ f X Y q : Nat, Y < 2 ^ f ∧ X < 256 ∧ Y < 256 ∧ q < 256 ∧ x = .int .i64 X ∧ y = .int .i64 Y ∧ p = .int .i64 q ∧ q ^^^ Gf.mulBits f X Y = R) (fun _ y _ => (intOf y).toNat)
  case atStart => exact ⟨8, a, b, 0, hb, ha, hb, by decide, rfl, rfl, rfl, by rw [Nat.zero_xor]; exact HR.out.symm⟩
  case round =>
    obtain ⟨f, X, Y, q, hY, hX, hY2, hq, rfl, rfl, rfl, hr⟩ := hrel
    have HS : Hid (q ^^^ Gf.mulBits f X Y = R) := hr
    clear hr
    by_cases h0 : Y = 0
    · subst h0
      have e : q = R := by have := HS.out; rw [Gf.mulBits_zero, Nat.xor_zero] at this; exact this
      subst e
      go_wp2
      go_ret
      exact ⟨rfl, rfl⟩
    · obtain ⟨g, rfl⟩ : ∃ g, f = g + 1 := by
        cases f with
        | zero => exfalso; rw [Nat.pow_zero] at hY; omega
        | succ g => exact ⟨g, rfl⟩
      have hY3 : Y / 2 < 2 ^ g := by rw [Nat.pow_succ] at hY; omega
      have hp : (0 : Int) < (Y : Int) := by omega
      have hd := Gf.dbl_lt X hX
      clear h0 hY
      by_cases ho : Y % 2 = 1
      · have ho' : (((Y : Int) % 2) == 1) = true := by simp; omega
        have hx := i64_xor_nat q X (by omega) (by omega)
        have hz := Gf.xor_lt q X hq hX
        have HS2 : Hid ((q ^^^ X) ^^^ Gf.mulBits g (Gf.dbl X) (Y / 2) = R) := bits_odd g X Y q R HS.out ho
        clear HS ho
        by_cases hh : 128 ≤ X
        · have HD : Hid (bits .xor .i64 (2 * (X : Int)) 285 = (Gf.dbl X : Int)) := dbl_hi2 X hX hh
          go_wp2
          go_round
          case rel => exact ⟨g, Gf.dbl X, Y / 2, q ^^^ X, hY3, hd, by omega, hz, val_int HD.out, by go_num, rfl, HS2.out⟩
          case measure => simp [intOf]; omega
        · have HD : Hid (2 * (X : Int) = (Gf.dbl X : Int)) := dbl_lo2 X (by omega)
          go_wp2
          go_round
          case rel => exact ⟨g, Gf.dbl X, Y / 2, q ^^^ X, hY3, hd, by omega, hz, val_int HD.out, by go_num, rfl, HS2.out⟩
          case measure => simp [intOf]; omega
      · have ho' : (((Y : Int) % 2) == 1) = false := by simp; omega
        have HS2 : Hid (q ^^^ Gf.mulBits g (Gf.dbl X) (Y / 2) = R) := bits_even g X Y q R HS.out ho
        clear HS ho
        by_cases hh : 128 ≤ X
        · have HD : Hid (bits .xor .i64 (2 * (X : Int)) 285 = (Gf.dbl X : Int)) := dbl_hi2 X hX hh
          go_wp2
          go_round
          case rel => exact ⟨g, Gf.dbl X, Y / 2, q, hY3, hd, by omega, hq, val_int HD.out, by go_num, rfl, HS2.out⟩
          case measure => simp [intOf]; omega
        · have HD : Hid (2 * (X : Int) = (Gf.dbl X : Int)) := dbl_lo2 X (by omega)
          go_wp2
          go_round
          case rel => exact ⟨g, Gf.dbl X, Y / 2, q, hY3, hd, by omega, hq, val_int HD.out, by go_num, rfl, HS2.out⟩
          case measure => simp [intOf]; omega
theorem rmul_at (x y z : Int) (w : World) (hx : 0 ≤ x ∧ x < 256) (hy : 0 ≤ y ∧ y < 256) (hz : (Gf.mul x.toNat y.toNat : Int) = z) :
    Calls Try.prog 39 #[.int .u8 x, .int .u8 y] w fun e w' => e = .returned (.int .u8 z) ∧ w' = w := by
  obtain ⟨n, rfl, hn⟩ := int_nat x hx
  obtain ⟨m, rfl, hm⟩ := int_nat y hy
  subst hz
  exact rmul_any n m hn hm w

theorem inv_unique (a k : Nat) (ha : a < 256) (h0 : a ≠ 0) (hk : k < 256) (h : Gf.mul a k = 1) : k = Gf.inv a := by
  have e : Gf.mul k (Gf.mul a (Gf.inv a)) = k := by rw [Gf.mul_inv a ha h0, Gf.mul_one k hk]
  rw [Gf.mul_assoc, Gf.mul_comm k a, h, Gf.mul_comm, Gf.mul_one _ (Gf.inv_lt a)] at e
  exact e.symm
theorem inv_pos (a : Nat) (h0 : a ≠ 0) : 1 ≤ Gf.inv a := by
  have : Gf.inv a ≠ 0 := by unfold Gf.inv; rw [if_neg h0]; exact Gf.pw_pos _
  omega

set_option maxRecDepth 100000 in
set_option maxHeartbeats 400000 in
theorem rinv_zero (a : Nat) (h0 : a = 0) (w : World) :
    Calls Try.prog 40 #[.int .u8 a] w fun e w' => e = .returned (.tuple #[.int .u8 0, .bool false]) ∧ w' = w := by
  have HZ : Hid (a = 0) := h0
  clear h0
  go_enter Try.func40, Try.ntmps40
  go_wp2
  go_loop [4] (fun i => ∃ k : Nat, k ≤ 256 ∧ i = .int .i64 k) (fun i => 256 - (intOf i).toNat)
  case atStart => exact ⟨1, by omega, rfl⟩
  case round =>
    obtain ⟨k, hk, rfl⟩ := hrel
    by_cases hlt : k < 256
    · go_wp2_with (go_at_call 39; refine (rmul_at (a : Int) (k : Int) 0 _ ⟨by omega, by have := HZ.out; omega⟩ ⟨by omega, by omega⟩ (by rw [HZ.out]; exact congrArg Int.ofNat (Gf.zero_mul _))).mono ?_; rintro e w' ⟨rfl, rfl⟩)
      go_round
      case rel => exact ⟨k + 1, by omega, by go_num⟩
      case measure => simp [intOf]; omega
    · have hk' : k = 256 := by omega
      subst hk'
      go_wp2
      go_ret2
      exact ⟨rfl, rfl⟩

set_option maxRecDepth 100000 in
set_option maxHeartbeats 400000 in
theorem rinv_ne (a : Nat) (ha : a < 256) (h0 : a ≠ 0) (w : World) :
    Calls Try.prog 40 #[.int .u8 a] w fun e w' => e = .returned (.tuple #[.int .u8 (Gf.inv a), .bool true]) ∧ w' = w := by
  have HU : Hid (∀ k, k < 256 → Gf.mul a k = 1 → k = Gf.inv a) := fun k hk h => inv_unique a k ha h0 hk h
  have HM : Hid (Gf.mul a (Gf.inv a) = 1) := Gf.mul_inv a ha h0
  have h1 := inv_pos a h0
  have h2 := Gf.inv_lt a
  clear h0
  generalize Gf.inv a = v at *
  go_enter Try.func40, Try.ntmps40
  go_wp2
  go_loop [4] (fun i => ∃ k : Nat, k ≤ v ∧ i = .int .i64 k) (fun i => 256 - (intOf i).toNat)
  case atStart => exact ⟨1, by omega, rfl⟩
  case round =>
    obtain ⟨k, hk, rfl⟩ := hrel
    have hl := Gf.mul_lt a k
    have hk2 : (k : Int) < 256 := by omega
    by_cases hlt : k = v
    · subst hlt
      go_wp2_with (go_at_call 39; refine (rmul_at (a : Int) (k : Int) 1 _ ⟨by omega, by omega⟩ ⟨by omega, by omega⟩ (congrArg Int.ofNat HM.out)).mono ?_; rintro e w' ⟨rfl, rfl⟩)
      go_ret2
      exact ⟨rfl, rfl⟩
    · have hne : Gf.mul a k ≠ 1 := fun h => hlt (HU.out k (by omega) h)
      have hne' : ((Gf.mul a k : Int) == 1) = false := by simp; omega
      have HL : Hid (¬ k = v) := hlt
      clear hlt hne
      go_wp2_with (go_at_call 39; refine (rmul_any a k ha (by omega) _).mono ?_; rintro e w' ⟨rfl, rfl⟩)
      go_round
      case rel => exact ⟨k + 1, by have := HL.out; omega, by go_num⟩
      case measure => simp [intOf]; omega



end Go.Proofs.Ythlidbenhlidjaa

/-
  That package field has begun: the statements' own look at the field answers true.
-/
import Derived.Test.YtehoimfbcjiloaaRow
namespace Go.Proofs.Ytehoimfbcjiloaa
open Go.RowKit Go.Deep

/-- w' is w behind some draws: nothing in it has turned. -/
def Same (w w' : World) : Prop := ∃ n, w' = w.drewN n
theorem Same.refl (w : World) : Same w w := ⟨0, rfl⟩
theorem Same.trans {a b c : World} (h : Same a b) (k : Same b c) : Same a c := by
  obtain ⟨n, rfl⟩ := h
  obtain ⟨m, rfl⟩ := k
  exact ⟨n + m, by rw [World.drewN_drewN]⟩
theorem Same.field {w w' : World} {b : Nat} (h : Same w w') (f : FieldAt w b) : FieldAt w' b := by
  obtain ⟨n, rfl⟩ := h; exact f.drewN n
theorem Same.below {w w' : World} (h : Same w w') (B : Nat) : Below B w w' := by
  obtain ⟨n, rfl⟩ := h; exact below_drews n
theorem Same.size {w w' : World} (h : Same w w') : w'.heap.size = w.heap.size := by
  obtain ⟨n, rfl⟩ := h; rfl
theorem Same.cell {w w' : World} (h : Same w w') (a : Addr) : w'.cell? a = w.cell? a := by
  obtain ⟨n, rfl⟩ := h; rfl
theorem Same.bytes {w w' : World} {a : Option Addr} {n : Nat} {x : Nat → Nat} (h : Same w w') (k : BytesAt w a n x) : BytesAt w' a n x := by
  obtain ⟨m, rfl⟩ := h; exact ⟨k.cells, k.lt⟩
theorem Same.row {w w' : World} {b t n : Nat} {f : Nat → Value} (h : Same w w') (k : w.rowIs b t n f) : w'.rowIs b t n f := by
  obtain ⟨m, rfl⟩ := h; exact k
theorem BytesAt.below {w w' : World} {a : Option Addr} {n B : Nat} {x : Nat → Nat} (h : BytesAt w a n x) (hb : Below B w w') (hB : w.heap.size ≤ B) : BytesAt w' a n x := by
  refine ⟨fun hn => ?_, h.lt⟩
  obtain ⟨b, o, e, hc⟩ := h.cells hn
  exact ⟨b, o, e, fun i hi => (hb.cell (p := ⟨b, o + i, none⟩) (Nat.lt_of_lt_of_le (cell_lt (hc i hi)) hB)).trans (hc i hi)⟩

theorem int_nat (x : Int) (h : 0 ≤ x ∧ x < 256) : ∃ n : Nat, x = n ∧ n < 256 := ⟨x.toNat, by omega, by omega⟩

theorem mul_is (b a c z : Nat) (w : World) (h : FieldAt w b) (ha : a < 256) (hc : c < 256) (hz : Gf.mul a c = z) :
    Calls Try.prog 17 #[.pointer (some ⟨b, 0, none⟩), .int .u8 a, .int .u8 c] w fun e w' => e = .returned (.int .u8 z) ∧ Same w w' := by
  subst hz
  exact mul_any b a c w h ha hc
theorem inv_z (b a : Nat) (w : World) (h : FieldAt w b) (h0 : a = 0) :
    Calls Try.prog 11 #[.pointer (some ⟨b, 0, none⟩), .int .u8 a] w fun e w' => e = .returned (.tuple #[.int .u8 0, .bool false]) ∧ w' = w := by
  subst h0
  exact inv_zero b w h
theorem inv_is (b a : Nat) (w : World) (h : FieldAt w b) (ha : a < 256) (h0 : a ≠ 0) :
    Calls Try.prog 11 #[.pointer (some ⟨b, 0, none⟩), .int .u8 a] w fun e w' => e = .returned (.tuple #[.int .u8 (Gf.inv a), .bool true]) ∧ Same w w' :=
  inv_ne b a w h ha h0
theorem div_z (b a c : Nat) (w : World) (h : FieldAt w b) (h0 : c = 0) :
    Calls Try.prog 13 #[.pointer (some ⟨b, 0, none⟩), .int .u8 a, .int .u8 c] w fun e w' => e = .returned (.tuple #[.int .u8 0, .bool false]) ∧ w' = w := by
  subst h0
  exact div_zero b a w h
theorem div_is (b a c : Nat) (w : World) (h : FieldAt w b) (ha : a < 256) (hc : c < 256) (hc0 : c ≠ 0) :
    Calls Try.prog 13 #[.pointer (some ⟨b, 0, none⟩), .int .u8 a, .int .u8 c] w fun e w' => e = .returned (.tuple #[.int .u8 (Gf.mul a (Gf.inv c)), .bool true]) ∧ Same w w' :=
  div_ne b a c w h ha hc hc0
theorem log_z (b a : Nat) (w : World) (h : FieldAt w b) (h0 : a = 0) :
    Calls Try.prog 15 #[.pointer (some ⟨b, 0, none⟩), .int .u8 a] w fun e w' => e = .returned (.tuple #[.int .i64 0, .bool false]) ∧ w' = w := by
  subst h0
  exact log_zero b w h
theorem exp_is (b z : Nat) (n : Int) (w : World) (h : FieldAt w b) (h1 : -9223372036854775808 ≤ n) (h2 : n ≤ 9223372036854775807) (hz : Gf.pw (n % 255).toNat = z) :
    Calls Try.prog 19 #[.pointer (some ⟨b, 0, none⟩), .int .i64 n] w fun e w' => e = .returned (.int .u8 z) ∧ w' = w := by
  subst hz
  exact exp_any b n w h h1 h2
theorem mul_at (b : Nat) (x y z : Int) (w : World) (h : FieldAt w b) (hx : 0 ≤ x ∧ x < 256) (hy : 0 ≤ y ∧ y < 256) (hz : (Gf.mul x.toNat y.toNat : Int) = z) :
    Calls Try.prog 17 #[.pointer (some ⟨b, 0, none⟩), .int .u8 x, .int .u8 y] w fun e w' => e = .returned (.int .u8 z) ∧ Same w w' := by
  obtain ⟨n, rfl, hn⟩ := int_nat x hx
  obtain ⟨m, rfl, hm⟩ := int_nat y hy
  subst hz
  exact mul_any b n m w h hn hm
theorem inv_at (b : Nat) (x z : Int) (w : World) (h : FieldAt w b) (hx : 0 ≤ x ∧ x < 256) (h0 : x ≠ 0) (hz : (Gf.inv x.toNat : Int) = z) :
    Calls Try.prog 11 #[.pointer (some ⟨b, 0, none⟩), .int .u8 x] w fun e w' => e = .returned (.tuple #[.int .u8 z, .bool true]) ∧ Same w w' := by
  obtain ⟨n, rfl, hn⟩ := int_nat x hx
  subst hz
  exact inv_ne b n w h hn (by omega)
theorem log_at (b : Nat) (x z : Int) (w : World) (h : FieldAt w b) (hx : 0 ≤ x ∧ x < 256) (h0 : x ≠ 0) (hz : (Gf.lg x.toNat : Int) = z) :
    Calls Try.prog 15 #[.pointer (some ⟨b, 0, none⟩), .int .u8 x] w fun e w' => e = .returned (.tuple #[.int .i64 z, .bool true]) ∧ w' = w := by
  obtain ⟨n, rfl, hn⟩ := int_nat x hx
  subst hz
  exact log_ne b n w h hn (by omega)
theorem exp_at (b : Nat) (n z : Int) (w : World) (h : FieldAt w b) (h1 : -9223372036854775808 ≤ n) (h2 : n ≤ 9223372036854775807) (hz : (Gf.pw (n % 255).toNat : Int) = z) :
    Calls Try.prog 19 #[.pointer (some ⟨b, 0, none⟩), .int .i64 n] w fun e w' => e = .returned (.int .u8 z) ∧ w' = w := by
  subst hz
  exact exp_any b n w h h1 h2

theorem axpy_at (p n m cn cm : Nat) (c : Int) (a b : Option Addr) (y x : Nat → Nat) (w : World) (h : FieldAt w p) (hy : BytesAt w a n y) (hx : BytesAt w b m x) (hn : n ≤ 140737488351232) (hm : m ≤ 140737488351232) (hc : 0 ≤ c ∧ c < 256) :
    Calls Try.prog 22 #[.pointer (some ⟨p, 0, none⟩), .slice a n cn, .slice b m cm, .int .u8 c] w fun e w' =>
      e = .returned (.slice (some ⟨w.heap.size, 0, none⟩) (min n m) (min n m)) ∧ w'.rowIs w.heap.size 5 (min n m) (addRow y x c.toNat (min n m)) ∧ Below w.heap.size w w' ∧ w'.heap.size = w.heap.size + 1 := by
  obtain ⟨k, rfl, hk⟩ := int_nat c hc
  exact axpy_any p n m cn cm k a b y x w h hy hx hn hm hk
theorem dot_at (p n m cn cm : Nat) (z : Int) (a b : Option Addr) (x y : Nat → Nat) (w : World) (h : FieldAt w p) (hx : BytesAt w a n x) (hy : BytesAt w b m y) (hn : n ≤ maxLen) (hm : m ≤ maxLen) (hz : (dot x y (min n m) : Int) = z) :
    Calls Try.prog 24 #[.pointer (some ⟨p, 0, none⟩), .slice a n cn, .slice b m cm] w fun e w' => e = .returned (.int .u8 z) ∧ Same w w' := by
  subst hz
  exact dot_any p n m cn cm a b x y w h hx hy hn hm

theorem bytes_one (w : World) (B : Nat) (x : Int) (hx : 0 ≤ x ∧ x < 256) (h : w.cell? ⟨B, 0, none⟩ = some (.int .u8 x)) : BytesAt w (some ⟨B, 0, none⟩) 1 (fun _ => x.toNat) := by
  refine ⟨fun _ => ⟨B, 0, rfl, fun i hi => ?_⟩, fun _ _ => by omega⟩
  obtain rfl : i = 0 := by omega
  rw [h]
  show some (Value.int .u8 x) = some (Value.int .u8 (x.toNat : Int))
  rw [Int.toNat_of_nonneg hx.1]

set_option maxRecDepth 100000 in
set_option maxHeartbeats 400000 in
theorem begun_any (w : World) :
    Calls Try.prog 9 #[] w fun e w' => e = .returned (.bool true) ∧ Below w.heap.size w w' := by
  go_enter Try.func9, Try.ntmps9
  go_wp2_with fail
  refine (new_any _).mono ?_
  rintro e w1 ⟨rfl, hb1, hf1, hs1⟩
  go_wp2_with fail
  refine (inv_at w.heap.size 2 142 _ hf1 (by decide) (by decide) (by decide +kernel)).mono ?_
  rintro e w2 ⟨rfl, q2⟩
  have hf2 := q2.field hf1
  go_wp2_with fail
  refine (log_at w.heap.size 29 8 _ hf2 (by decide) (by decide) (by decide +kernel)).mono ?_
  rintro e w3 ⟨rfl, rfl⟩
  go_wp2_with fail
  refine (inv_zero w.heap.size _ hf2).mono ?_
  rintro e w4 ⟨rfl, rfl⟩
  go_wp2_with fail
  refine (mul_at w.heap.size 2 128 29 _ hf2 (by decide) (by decide) (by decide +kernel)).mono ?_
  rintro e w5 ⟨rfl, q5⟩
  have hf5 := q5.field hf2
  go_wp2_with fail
  refine (exp_at w.heap.size 8 29 _ hf5 (by decide) (by decide) (by decide +kernel)).mono ?_
  rintro e w6 ⟨rfl, rfl⟩
  go_wp2_with fail
  have b7 : Below w6.heap.size w6 ((w6.alloc (.cells #[.int .u8 1] 5)).alloc (.cells #[.int .u8 1] 5)) := ((Below.refl _ _).alloc (Nat.le_refl _) _).alloc (by simp) _
  have y7 : BytesAt ((w6.alloc (.cells #[.int .u8 1] 5)).alloc (.cells #[.int .u8 1] 5)) (some ⟨w6.heap.size, 0, none⟩) 1 (fun _ => 1) := bytes_one _ _ 1 (by decide) (by simp)
  have x7 : BytesAt ((w6.alloc (.cells #[.int .u8 1] 5)).alloc (.cells #[.int .u8 1] 5)) (some ⟨w6.heap.size + 1, 0, none⟩) 1 (fun _ => 1) := bytes_one _ _ 1 (by decide) (by simp)
  have s7 : ((w6.alloc (.cells #[.int .u8 1] 5)).alloc (.cells #[.int .u8 1] 5)).heap.size = w6.heap.size + 2 := by simp
  generalize ((w6.alloc (.cells #[.int .u8 1] 5)).alloc (.cells #[.int .u8 1] 5)) = w7 at *
  have hf7 := hf5.below b7 hf5.lt
  refine (axpy_at w.heap.size 1 1 1 1 2 _ _ _ _ _ hf7 y7 x7 (by decide) (by decide) (by decide)).mono ?_
  rintro e w8 ⟨rfl, -, b8, s8⟩
  have hf8 := hf7.below b8 hf7.lt
  have B8 : Below w.heap.size w w8 := by
    have z2 := q2.size
    have z5 := q5.size
    exact (((hb1.trans (q2.below _)).trans (q5.below _)).trans (b7.mono (by omega))).trans (b8.mono (by omega))
  clear y7 x7 b7 b8 s7 s8
  go_wp2_with fail
  have b9 : Below w8.heap.size w8 ((w8.alloc (.cells #[.int .u8 2] 5)).alloc (.cells #[.int .u8 3] 5)) := ((Below.refl _ _).alloc (Nat.le_refl _) _).alloc (by simp) _
  have y9 : BytesAt ((w8.alloc (.cells #[.int .u8 2] 5)).alloc (.cells #[.int .u8 3] 5)) (some ⟨w8.heap.size, 0, none⟩) 1 (fun _ => 2) := bytes_one _ _ 2 (by decide) (by simp)
  have x9 : BytesAt ((w8.alloc (.cells #[.int .u8 2] 5)).alloc (.cells #[.int .u8 3] 5)) (some ⟨w8.heap.size + 1, 0, none⟩) 1 (fun _ => 3) := bytes_one _ _ 3 (by decide) (by simp)
  generalize ((w8.alloc (.cells #[.int .u8 2] 5)).alloc (.cells #[.int .u8 3] 5)) = w9 at *
  have hf9 := hf8.below b9 hf8.lt
  refine (dot_at w.heap.size 1 1 1 1 6 _ _ _ _ _ hf9 y9 x9 (by decide) (by decide) (by decide +kernel)).mono ?_
  rintro e w10 ⟨rfl, q10⟩
  have B10 : Below w.heap.size w w10 := (B8.trans (b9.mono B8.size)).trans (q10.below _)
  clear y9 x9 b9 q10
  go_wp2
  go_ret
  exact ⟨rfl, B10⟩
end Go.Proofs.Ytehoimfbcjiloaa

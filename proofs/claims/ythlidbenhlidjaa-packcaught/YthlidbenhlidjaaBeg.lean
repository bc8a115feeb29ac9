/-
  That package field has begun: the statements' own look at the field answers true.
-/
import Derived.Test.YthlidbenhlidjaaRow
namespace Go.Proofs.Ythlidbenhlidjaa
open Go.RowKit Go.Deep

theorem Same.field {w w' : World} {b : Nat} (h : Same w w') (f : FieldAt w b) : FieldAt w' b := by
  obtain ⟨n, rfl⟩ := h; exact f.drewN n
theorem inv_z (b a : Nat) (w : World) (h : FieldAt w b) (h0 : a = 0) :
    Calls Try.prog 41 #[.pointer (some ⟨b, 0, none⟩), .int .u8 a] w fun e w' => e = .returned (.tuple #[.int .u8 0, .bool false]) ∧ w' = w := by
  subst h0
  exact inv_zero b w h
theorem inv_is (b a : Nat) (w : World) (h : FieldAt w b) (ha : a < 256) (h0 : a ≠ 0) :
    Calls Try.prog 41 #[.pointer (some ⟨b, 0, none⟩), .int .u8 a] w fun e w' => e = .returned (.tuple #[.int .u8 (Gf.inv a), .bool true]) ∧ Same w w' :=
  inv_ne b a w h ha h0
theorem inv_at (b : Nat) (x z : Int) (w : World) (h : FieldAt w b) (hx : 0 ≤ x ∧ x < 256) (h0 : x ≠ 0) (hz : (Gf.inv x.toNat : Int) = z) :
    Calls Try.prog 41 #[.pointer (some ⟨b, 0, none⟩), .int .u8 x] w fun e w' => e = .returned (.tuple #[.int .u8 z, .bool true]) ∧ Same w w' := by
  obtain ⟨n, rfl, hn⟩ := int_nat x hx
  subst hz
  exact inv_ne b n w h hn (by omega)
theorem axpy_at (p n m cn cm : Nat) (c : Int) (a b : Option Addr) (y x : Nat → Nat) (w : World) (h : FieldAt w p) (hy : BytesAt w a n y) (hx : BytesAt w b m x) (hn : n ≤ 140737488351232) (hm : m ≤ 140737488351232) (hc : 0 ≤ c ∧ c < 256) :
    Calls Try.prog 38 #[.pointer (some ⟨p, 0, none⟩), .slice a n cn, .slice b m cm, .int .u8 c] w fun e w' =>
      e = .returned (.slice (some ⟨w.heap.size, 0, none⟩) (min n m) (min n m)) ∧ w'.rowIs w.heap.size 5 (min n m) (addRow y x c.toNat (min n m)) ∧ Below w.heap.size w w' ∧ w'.heap.size = w.heap.size + 1 := by
  obtain ⟨k, rfl, hk⟩ := int_nat c hc
  exact axpy_any p n m cn cm k a b y x w h hy hx hn hm hk
end Go.Proofs.Ythlidbenhlidjaa

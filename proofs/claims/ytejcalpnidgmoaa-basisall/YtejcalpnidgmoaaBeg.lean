/-
  That package field has begun: the statements' own look at the field answers true.
-/
import Derived.Test.YtejcalpnidgmoaaRow
namespace Go.Proofs.Ytejcalpnidgmoaa
open Go.RowKit Go.Deep

/-- w' is w behind some draws: nothing in it has turned. -/
def Same (w w' : World) : Prop := ∃ n, w' = w.drewN n
theorem Same.refl (w : World) : Same w w := ⟨0, rfl⟩
theorem Same.trans {a b c : World} (h : Same a b) (k : Same b c) : Same a c := by
  obtain ⟨n, rfl⟩ := h
  obtain ⟨m, rfl⟩ := k
  exact ⟨n + m, by rw [World.drewN_drewN]⟩
theorem Same.field {w w' : World} {b : Nat} (h : Same w w') (f : FieldAt w b) : FieldAt w' b := by
  obtain ⟨n, rfl⟩ := h; exact f.drewN n
theorem Same.below {w w' : World} (h : Same w w') (B : Nat) : Below B w w' := by
  obtain ⟨n, rfl⟩ := h; exact below_drews n
theorem Same.size {w w' : World} (h : Same w w') : w'.heap.size = w.heap.size := by
  obtain ⟨n, rfl⟩ := h; rfl
theorem Same.cell {w w' : World} (h : Same w w') (a : Addr) : w'.cell? a = w.cell? a := by
  obtain ⟨n, rfl⟩ := h; rfl
theorem Same.bytes {w w' : World} {a : Option Addr} {n : Nat} {x : Nat → Nat} (h : Same w w') (k : BytesAt w a n x) : BytesAt w' a n x := by
  obtain ⟨m, rfl⟩ := h; exact ⟨k.cells, k.lt⟩
theorem Same.row {w w' : World} {b t n : Nat} {f : Nat → Value} (h : Same w w') (k : w.rowIs b t n f) : w'.rowIs b t n f := by
  obtain ⟨m, rfl⟩ := h; exact k
theorem BytesAt.below {w w' : World} {a : Option Addr} {n B : Nat} {x : Nat → Nat} (h : BytesAt w a n x) (hb : Below B w w') (hB : w.heap.size ≤ B) : BytesAt w' a n x := by
  refine ⟨fun hn => ?_, h.lt⟩
  obtain ⟨b, o, e, hc⟩ := h.cells hn
  exact ⟨b, o, e, fun i hi => (hb.cell (p := ⟨b, o + i, none⟩) (Nat.lt_of_lt_of_le (cell_lt (hc i hi)) hB)).trans (hc i hi)⟩

theorem int_nat (x : Int) (h : 0 ≤ x ∧ x < 256) : ∃ n : Nat, x = n ∧ n < 256 := ⟨x.toNat, by omega, by omega⟩

theorem inv_z (b a : Nat) (w : World) (h : FieldAt w b) (h0 : a = 0) :
    Calls Try.prog 34 #[.pointer (some ⟨b, 0, none⟩), .int .u8 a] w fun e w' => e = .returned (.tuple #[.int .u8 0, .bool false]) ∧ w' = w := by
  subst h0
  exact inv_zero b w h
theorem inv_is (b a : Nat) (w : World) (h : FieldAt w b) (ha : a < 256) (h0 : a ≠ 0) :
    Calls Try.prog 34 #[.pointer (some ⟨b, 0, none⟩), .int .u8 a] w fun e w' => e = .returned (.tuple #[.int .u8 (Gf.inv a), .bool true]) ∧ Same w w' :=
  inv_ne b a w h ha h0
theorem inv_at (b : Nat) (x z : Int) (w : World) (h : FieldAt w b) (hx : 0 ≤ x ∧ x < 256) (h0 : x ≠ 0) (hz : (Gf.inv x.toNat : Int) = z) :
    Calls Try.prog 34 #[.pointer (some ⟨b, 0, none⟩), .int .u8 x] w fun e w' => e = .returned (.tuple #[.int .u8 z, .bool true]) ∧ Same w w' := by
  obtain ⟨n, rfl, hn⟩ := int_nat x hx
  subst hz
  exact inv_ne b n w h hn (by omega)
theorem axpy_at (p n m cn cm : Nat) (c : Int) (a b : Option Addr) (y x : Nat → Nat) (w : World) (h : FieldAt w p) (hy : BytesAt w a n y) (hx : BytesAt w b m x) (hn : n ≤ 140737488351232) (hm : m ≤ 140737488351232) (hc : 0 ≤ c ∧ c < 256) :
    Calls Try.prog 21 #[.pointer (some ⟨p, 0, none⟩), .slice a n cn, .slice b m cm, .int .u8 c] w fun e w' =>
      e = .returned (.slice (some ⟨w.heap.size, 0, none⟩) (min n m) (min n m)) ∧ w'.rowIs w.heap.size 5 (min n m) (addRow y x c.toNat (min n m)) ∧ Below w.heap.size w w' ∧ w'.heap.size = w.heap.size + 1 := by
  obtain ⟨k, rfl, hk⟩ := int_nat c hc
  exact axpy_any p n m cn cm k a b y x w h hy hx hn hm hk
theorem bytes_one (w : World) (B : Nat) (x : Int) (hx : 0 ≤ x ∧ x < 256) (h : w.cell? ⟨B, 0, none⟩ = some (.int .u8 x)) : BytesAt w (some ⟨B, 0, none⟩) 1 (fun _ => x.toNat) := by
  refine ⟨fun _ => ⟨B, 0, rfl, fun i hi => ?_⟩, fun _ _ => by omega⟩
  obtain rfl : i = 0 := by omega
  rw [h]
  show some (Value.int .u8 x) = some (Value.int .u8 (x.toNat : Int))
  rw [Int.toNat_of_nonneg hx.1]

end Go.Proofs.Ytejcalpnidgmoaa

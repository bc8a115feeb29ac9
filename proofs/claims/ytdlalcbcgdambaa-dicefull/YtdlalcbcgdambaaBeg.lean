/-
  That package field has begun: the statements' own look at the field answers true.
-/
import Derived.Test.YtdlalcbcgdambaaRow
namespace Go.Proofs.Ytdlalcbcgdambaa
open Go.RowKit Go.Deep

/-- w' is w behind some draws: nothing in it has turned. -/
def Same (w w' : World) : Prop := ∃ n, w' = w.drewN n
theorem Same.refl (w : World) : Same w w := ⟨0, rfl⟩
theorem Same.trans {a b c : World} (h : Same a b) (k : Same b c) : Same a c := by
  obtain ⟨n, rfl⟩ := h
  obtain ⟨m, rfl⟩ := k
  exact ⟨n + m, by rw [World.drewN_drewN]⟩
theorem Same.field {w w' : World} {b : Nat} (h : Same w w') (f : FieldAt w b) : FieldAt w' b := by
  obtain ⟨n, rfl⟩ := h; exact f.drewN n
theorem Same.below {w w' : World} (h : Same w w') (B : Nat) : Below B w w' := by
  obtain ⟨n, rfl⟩ := h; exact below_drews n
theorem Same.size {w w' : World} (h : Same w w') : w'.heap.size = w.heap.size := by
  obtain ⟨n, rfl⟩ := h; rfl
theorem Same.cell {w w' : World} (h : Same w w') (a : Addr) : w'.cell? a = w.cell? a := by
  obtain ⟨n, rfl⟩ := h; rfl
theorem Same.bytes {w w' : World} {a : Option Addr} {n : Nat} {x : Nat → Nat} (h : Same w w') (k : BytesAt w a n x) : BytesAt w' a n x := by
  obtain ⟨m, rfl⟩ := h; exact ⟨k.cells, k.lt⟩
theorem Same.row {w w' : World} {b t n : Nat} {f : Nat → Value} (h : Same w w') (k : w.rowIs b t n f) : w'.rowIs b t n f := by
  obtain ⟨m, rfl⟩ := h; exact k
theorem BytesAt.below {w w' : World} {a : Option Addr} {n B : Nat} {x : Nat → Nat} (h : BytesAt w a n x) (hb : Below B w w') (hB : w.heap.size ≤ B) : BytesAt w' a n x := by
  refine ⟨fun hn => ?_, h.lt⟩
  obtain ⟨b, o, e, hc⟩ := h.cells hn
  exact ⟨b, o, e, fun i hi => (hb.cell (p := ⟨b, o + i, none⟩) (Nat.lt_of_lt_of_le (cell_lt (hc i hi)) hB)).trans (hc i hi)⟩

theorem int_nat (x : Int) (h : 0 ≤ x ∧ x < 256) : ∃ n : Nat, x = n ∧ n < 256 := ⟨x.toNat, by omega, by omega⟩

theorem bytes_one (w : World) (B : Nat) (x : Int) (hx : 0 ≤ x ∧ x < 256) (h : w.cell? ⟨B, 0, none⟩ = some (.int .u8 x)) : BytesAt w (some ⟨B, 0, none⟩) 1 (fun _ => x.toNat) := by
  refine ⟨fun _ => ⟨B, 0, rfl, fun i hi => ?_⟩, fun _ _ => by omega⟩
  obtain rfl : i = 0 := by omega
  rw [h]
  show some (Value.int .u8 x) = some (Value.int .u8 (x.toNat : Int))
  rw [Int.toNat_of_nonneg hx.1]

end Go.Proofs.Ytdlalcbcgdambaa

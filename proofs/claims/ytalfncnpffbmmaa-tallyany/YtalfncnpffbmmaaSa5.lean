/-
  The library's Sort of a row of uint64: numbers that look drawn, and three exchanges by them.
-/
import Derived.Sort.LotD5
import Derived.Deep.CutRange
import Derived.Test.YtalfncnpffbmmaaSa4
namespace Go.Proofs.Ytalfncnpffbmmaa
open Go.RowKit Go.Deep

theorem w64_xor (a b : Nat) (ha : a < 18446744073709551616) (hb : b < 18446744073709551616) : bits .xor .u64 (a : Int) (b : Int) = ((a ^^^ b : Nat) : Int) := by
  have hx : a ^^^ b < 2 ^ 64 := Nat.xor_lt_two_pow (by omega) (by omega)
  show IntKind.u64.wrap ((BitVec.ofInt 64 (a : Int) ^^^ BitVec.ofInt 64 (b : Int)).toNat : Int) = _
  rw [BitVec.toNat_xor, BitVec.ofInt_natCast, BitVec.ofInt_natCast, BitVec.toNat_ofNat, BitVec.toNat_ofNat, Nat.mod_eq_of_lt (a := a) (by omega), Nat.mod_eq_of_lt (a := b) (by omega)]
  simp [IntKind.wrap, IntKind.bits, IntKind.signed]
  omega
theorem w64_and (a b : Nat) (ha : a < 18446744073709551616) (hb : b < 18446744073709551616) : bits .and .u64 (a : Int) (b : Int) = ((a &&& b : Nat) : Int) := by
  have hx : a &&& b < 2 ^ 64 := Nat.and_lt_two_pow _ (by omega)
  show IntKind.u64.wrap ((BitVec.ofInt 64 (a : Int) &&& BitVec.ofInt 64 (b : Int)).toNat : Int) = _
  rw [BitVec.toNat_and, BitVec.ofInt_natCast, BitVec.ofInt_natCast, BitVec.toNat_ofNat, BitVec.toNat_ofNat, Nat.mod_eq_of_lt (a := a) (by omega), Nat.mod_eq_of_lt (a := b) (by omega)]
  simp [IntKind.wrap, IntKind.bits, IntKind.signed]
  omega
/-- A variable that draws. -/
structure RndAt (w : World) (R r : Nat) : Prop where
  cell : w.cell? ⟨R, 0, none⟩ = some (.int .u64 (r : Int))
  thaw : w.frozen? ⟨R, 0, none⟩ = false
  lt : r < 18446744073709551616
set_option maxRecDepth 100000 in
set_option maxHeartbeats 1000000 in
theorem snext_any (R r : Nat) (w : World) (H : RndAt w R r) :
    Calls Try.prog 41 #[.pointer (some ⟨R, 0, none⟩)] w fun e w' => ∃ s : Nat, e = .returned (.int .u64 (s : Int)) ∧ RndAt w' R s ∧ Kept R w w' ∧ w'.heap.size = w.heap.size := by
  have c1 := H.cell
  have f1 := H.thaw
  obtain ⟨x, hx⟩ : ∃ x, x = r ^^^ (r * 8192 % 18446744073709551616) := ⟨_, rfl⟩
  obtain ⟨y, hy⟩ : ∃ y, y = x ^^^ (x / 128) := ⟨_, rfl⟩
  obtain ⟨z, hz⟩ : ∃ z, z = y ^^^ (y * 131072 % 18446744073709551616) := ⟨_, rfl⟩
  have lr := H.lt
  have lx : x < 2 ^ 64 := hx ▸ Nat.xor_lt_two_pow (by omega) (by omega)
  have ly : y < 2 ^ 64 := hy ▸ Nat.xor_lt_two_pow (by omega) (by omega)
  have lz : z < 2 ^ 64 := hz ▸ Nat.xor_lt_two_pow (by omega) (by omega)
  obtain ⟨u, hu⟩ : ∃ u, u = r * 8192 % 18446744073709551616 := ⟨_, rfl⟩
  obtain ⟨v, hv⟩ : ∃ v, v = x / 128 := ⟨_, rfl⟩
  obtain ⟨t, ht⟩ : ∃ t, t = y * 131072 % 18446744073709551616 := ⟨_, rfl⟩
  have w1 : IntKind.u64.wrap ((r : Int) * 8192) = (u : Int) := by
    simp [IntKind.wrap, IntKind.bits, IntKind.signed]
    omega
  have w2 : (x : Int) / 128 = (v : Int) := by omega
  have w3 : IntKind.u64.wrap ((y : Int) * 131072) = (t : Int) := by
    simp [IntKind.wrap, IntKind.bits, IntKind.signed]
    omega
  have e1 : bits .xor .u64 (r : Int) (u : Int) = (x : Int) := by rw [w64_xor _ _ (by omega) (by omega), hx, hu]
  have e2 : bits .xor .u64 (x : Int) (v : Int) = (y : Int) := by rw [w64_xor _ _ (by omega) (by omega), hy, hv]
  have e3 : bits .xor .u64 (y : Int) (t : Int) = (z : Int) := by rw [w64_xor _ _ (by omega) (by omega), hz, ht]
  have q1 : RndAt (w.setCell ⟨R, 0, none⟩ (.int .u64 (x : Int))) R x := ⟨by rw [World.cell?_setCell_same _ _ _ c1], by simpa using f1, by omega⟩
  have k1 : Kept R w (w.setCell ⟨R, 0, none⟩ (.int .u64 (x : Int))) := Kept.set _ _ _
  have z1 : (w.setCell ⟨R, 0, none⟩ (.int .u64 (x : Int))).heap.size = w.heap.size := by simp [World.setCell]
  clear hx hy hz hu hv ht lr lx ly
  go_enter Try.func41, Try.ntmps41
  go_wp2_with fail
  go_region
  go_wp2_with fail
  have c2 : ((w.setCell ⟨R, 0, none⟩ (.int .u64 (x : Int))).drew).cell? ⟨R, 0, none⟩ = some (.int .u64 (x : Int)) := q1.cell
  have f2 : ((w.setCell ⟨R, 0, none⟩ (.int .u64 (x : Int))).drew).frozen? ⟨R, 0, none⟩ = false := q1.thaw
  have k2 : Kept R w ((w.setCell ⟨R, 0, none⟩ (.int .u64 (x : Int))).drew) := k1.trans (Kept.of_same ⟨1, rfl⟩)
  have z2 : ((w.setCell ⟨R, 0, none⟩ (.int .u64 (x : Int))).drew).heap.size = w.heap.size := z1
  clear q1 k1 z1 c1 f1 w1 e1
  generalize (w.setCell ⟨R, 0, none⟩ (.int .u64 (x : Int))).drew = wa at *
  go_region
  go_wp2_with fail
  have c3 : ((wa.setCell ⟨R, 0, none⟩ (.int .u64 (y : Int))).drew).cell? ⟨R, 0, none⟩ = some (.int .u64 (y : Int)) := by
    show (wa.setCell ⟨R, 0, none⟩ (.int .u64 (y : Int))).cell? ⟨R, 0, none⟩ = _
    rw [World.cell?_setCell_same _ _ _ c2]
  have f3 : ((wa.setCell ⟨R, 0, none⟩ (.int .u64 (y : Int))).drew).frozen? ⟨R, 0, none⟩ = false := by simpa using f2
  have k3 : Kept R w ((wa.setCell ⟨R, 0, none⟩ (.int .u64 (y : Int))).drew) := (k2.trans (Kept.set _ _ _)).trans (Kept.of_same ⟨1, rfl⟩)
  have z3 : ((wa.setCell ⟨R, 0, none⟩ (.int .u64 (y : Int))).drew).heap.size = w.heap.size := by rw [← z2]; simp [World.setCell]
  clear c2 f2 k2 z2 w2 e2
  generalize (wa.setCell ⟨R, 0, none⟩ (.int .u64 (y : Int))).drew = wb at *
  go_region
  go_wp2_with fail
  have c4 : ((wb.setCell ⟨R, 0, none⟩ (.int .u64 (z : Int))).drew).cell? ⟨R, 0, none⟩ = some (.int .u64 (z : Int)) := by
    show (wb.setCell ⟨R, 0, none⟩ (.int .u64 (z : Int))).cell? ⟨R, 0, none⟩ = _
    rw [World.cell?_setCell_same _ _ _ c3]
  have f4 : ((wb.setCell ⟨R, 0, none⟩ (.int .u64 (z : Int))).drew).frozen? ⟨R, 0, none⟩ = false := by simpa using f3
  have k4 : Kept R w ((wb.setCell ⟨R, 0, none⟩ (.int .u64 (z : Int))).drew) := (k3.trans (Kept.set _ _ _)).trans (Kept.of_same ⟨1, rfl⟩)
  have z4 : ((wb.setCell ⟨R, 0, none⟩ (.int .u64 (z : Int))).drew).heap.size = w.heap.size := by rw [← z3]; simp [World.setCell]
  clear c3 f3 k3 z3 w3 e3
  generalize (wb.setCell ⟨R, 0, none⟩ (.int .u64 (z : Int))).drew = wd at *
  go_wp2
  go_ret
  exact ⟨z, rfl, ⟨c4, f4, by omega⟩, k4, z4⟩
end Go.Proofs.Ytalfncnpffbmmaa

/-
  Package serial: how far numbers that go round are apart, and an Ext in memory, which makes numbers of them that don't.
-/
import Derived.Test.YtalfncnpffbmmaaMem
namespace Go.Proofs.Ytalfncnpffbmmaa
open Go.RowKit Go.Deep

namespace Ser
/-- How far b is behind a, with a sign. -/
def dif (a b : Nat) : Int := if ((b : Int) - a) % 65536 < 32768 then ((b : Int) - a) % 65536 else ((b : Int) - a) % 65536 - 65536
/-- The number that n stands for, t the greatest one so far (0: none). -/
def far (t n : Nat) : Nat := if t = 0 then 65536 + n else ((t : Int) + dif (t % 65536) n).toNat
/-- The greatest one behind it. -/
def top (t n : Nat) : Nat := max t (far t n)
theorem dif_range (a b : Nat) : -32768 ≤ dif a b ∧ dif a b < 32768 := by
  unfold dif
  split <;> omega
theorem wrap_i16 (n : Int) : IntKind.i16.wrap n = (n + 32768) % 65536 - 32768 := by simp [IntKind.wrap, IntKind.bits, IntKind.signed]; omega
theorem wrap_u64 (n : Int) : IntKind.u64.wrap n = n % 18446744073709551616 := by simp [IntKind.wrap, IntKind.bits, IntKind.signed]
theorem dif_run (a b : Nat) : wrap64 (IntKind.i16.wrap (IntKind.u16.wrap ((b : Int) - a))) = dif a b := by
  rw [wrap_i16, IntKind.wrap_u16]
  unfold wrap64 dif
  split <;> omega
theorem far_zero (n : Nat) : far 0 n = 65536 + n := rfl
theorem far_pos {t : Nat} (n : Nat) (h : 65536 ≤ t) : (far t n : Int) = (t : Int) + dif (t % 65536) n := by
  have := dif_range (t % 65536) n
  unfold far
  rw [if_neg (by omega)]
  omega
end Ser

set_option maxRecDepth 100000 in
set_option maxHeartbeats 400000 in
theorem diff_any (a b : Nat) (w : World) :
    Calls Try.prog 25 #[.int .u16 (a : Int), .int .u16 (b : Int)] w fun e w' => e = .returned (.int .i64 (Ser.dif a b)) ∧ w' = w := by
  go_enter Try.func25, Try.ntmps25
  go_wp2
  go_ret
  exact ⟨ret_int (Ser.dif_run a b), rfl⟩

/-- The block g holds an Ext whose greatest number is t (0: none). -/
structure ExtAt (w : World) (g t : Nat) : Prop where
  cell : w.cell? ⟨g, 0, none⟩ = some (.int .u64 (t : Int))
  thaw : w.frozen? ⟨g, 0, none⟩ = false
theorem ExtAt.same {w w' : World} {g t : Nat} (h : ExtAt w g t) (q : Same w w') : ExtAt w' g t := by
  obtain ⟨n, rfl⟩ := q
  exact ⟨h.cell, h.thaw⟩
theorem ExtAt.kept {w w' : World} {g t R : Nat} (h : ExtAt w g t) (q : Kept R w w') (hR : g ≠ R) : ExtAt w' g t :=
  ⟨q.cell h.cell hR, (World.frozen?_of_block (a := ⟨g, 0, none⟩) (q.block g (cell_lt h.cell) hR)).trans h.thaw⟩
theorem ExtAt.grew {w w' : World} {g t : Nat} (h : ExtAt w g t) (q : Below w.heap.size w w') : ExtAt w' g t :=
  h.kept (R := w.heap.size) (Kept.of_below q) (by have := cell_lt h.cell; omega)
theorem ExtAt.set {w : World} {g t : Nat} (h : ExtAt w g t) (u : Nat) : ExtAt (w.setCell ⟨g, 0, none⟩ (.int .u64 (u : Int))) g u ∧ Kept g w (w.setCell ⟨g, 0, none⟩ (.int .u64 (u : Int))) ∧ (w.setCell ⟨g, 0, none⟩ (.int .u64 (u : Int))).heap.size = w.heap.size := by
  refine ⟨⟨?_, ?_⟩, Kept.set w 0 _, by simp [World.setCell]⟩
  · rw [World.cell?_setCell_same _ _ _ h.cell]
  · have := h.thaw
    simpa using this

set_option maxRecDepth 100000 in
set_option maxHeartbeats 400000 in
theorem ext_new (w : World) :
    Calls Try.prog 10 #[] w fun e w' => e = .returned (.pointer (some ⟨w.heap.size, 0, none⟩)) ∧ ExtAt w' w.heap.size 0 ∧ Below w.heap.size w w' ∧ w'.heap.size = w.heap.size + 1 := by
  go_enter Try.func10, Try.ntmps10
  go_wp2
  go_ret
  exact ⟨rfl, ⟨by rw [World.cell?_alloc_at _ _ _ _ rfl]; rfl, frozen_of_row _ w.heap.size 0 _ 52 (heap_alloc_new w _)⟩, (Below.refl _ _).alloc (Nat.le_refl _) _, by simp⟩

set_option maxRecDepth 100000 in
set_option maxHeartbeats 400000 in
theorem reach_any (g t n : Nat) (w : World) (h : ExtAt w g t) (hn : n < 65536) (ht : t = 0 ∨ 65536 ≤ t) (hT : t ≤ 1000000000000) :
    Calls Try.prog 20 #[.pointer (some ⟨g, 0, none⟩), .int .u16 (n : Int)] w fun e w' => e = .returned (.int .u64 (Ser.far t n : Int)) ∧ Same w w' := by
  have hc := h.cell
  have e1 : IntKind.u16.wrap (t : Int) = ((t % 65536 : Nat) : Int) := by rw [IntKind.wrap_u16]; omega
  go_enter Try.func20, Try.ntmps20
  go_wp2_with fail
  · rename_i h0
    obtain rfl : t = 0 := by have := eq_of_beq h0; omega
    go_ret
    exact ⟨ret_int (by rw [Ser.far_zero]; omega), Same.refl _⟩
  · rename_i h0 _ _
    have h0 := ne_of_beq_false h0
    go_quiet ((go_at_call 25; exact Calls.quiet_of_same (diff_any (t % 65536) n _)))
    go_wp2
    go_ret
    exact ⟨ret_int (by rw [Ser.far_pos n (by omega), Ser.wrap_u64, Ser.wrap_u64]; have := Ser.dif_range (t % 65536) n; omega), ⟨_, rfl⟩⟩

set_option maxRecDepth 100000 in
set_option maxHeartbeats 400000 in
theorem extend_nil (v : Value) (w : World) :
    Calls Try.prog 13 #[.pointer none, v] w fun e w' => e = .returned (.int .u64 0) ∧ w' = w := by
  go_enter Try.func13, Try.ntmps13
  go_wp2
  go_ret
  exact ⟨rfl, rfl⟩
set_option maxRecDepth 100000 in
set_option maxHeartbeats 400000 in
theorem top_nil (w : World) :
    Calls Try.prog 12 #[.pointer none] w fun e w' => e = .returned (.tuple #[.int .u64 0, .bool false]) ∧ w' = w := by
  go_enter Try.func12, Try.ntmps12
  go_wp2
  go_ret2
  exact ⟨rfl, rfl⟩
set_option maxRecDepth 100000 in
set_option maxHeartbeats 400000 in
theorem top_any (g t : Nat) (w : World) (h : ExtAt w g t) :
    Calls Try.prog 12 #[.pointer (some ⟨g, 0, none⟩)] w fun e w' => e = .returned (.tuple #[.int .u64 (t : Int), .bool (decide (t ≠ 0))]) ∧ w' = w := by
  have hc := h.cell
  go_enter Try.func12, Try.ntmps12
  go_wp2
  · rename_i h0
    obtain rfl : t = 0 := by have := eq_of_beq h0; omega
    go_ret2
    exact ⟨rfl, rfl⟩
  · rename_i h0
    have h0 := ne_of_beq_false h0
    go_ret2
    exact ⟨by rw [decide_eq_true (show t ≠ 0 by omega)]; rfl, rfl⟩
set_option maxRecDepth 100000 in
set_option maxHeartbeats 400000 in
theorem extend_any (g t n : Nat) (w : World) (h : ExtAt w g t) (hn : n < 65536) (ht : t = 0 ∨ 65536 ≤ t) (hT : t ≤ 1000000000000) :
    Calls Try.prog 13 #[.pointer (some ⟨g, 0, none⟩), .int .u16 (n : Int)] w fun e w' => e = .returned (.int .u64 (Ser.far t n : Int)) ∧ ExtAt w' g (Ser.top t n) ∧ Kept g w w' ∧ w'.heap.size = w.heap.size := by
  go_enter Try.func13, Try.ntmps13
  go_wp2_with fail
  refine (reach_any g t n _ h hn ht hT).mono ?_
  rintro e w1 ⟨rfl, s1⟩
  have h1 := h.same s1
  have hc := h1.cell
  have hf := h1.thaw
  obtain ⟨p1, p2, p3⟩ := h1.set (Ser.far t n)
  obtain ⟨q1, q2, q3⟩ := h1.set t
  have k1 : Kept g w w1 := Kept.of_same s1
  have z1 := s1.size
  go_wp2
  · go_ret
    exact ⟨rfl, by rw [Ser.top, Nat.max_eq_right (by omega)]; exact p1, k1.trans p2, by omega⟩
  · go_ret
    exact ⟨rfl, by rw [Ser.top, Nat.max_eq_left (by omega)]; exact q1, k1.trans q2, by omega⟩
end Go.Proofs.Ytalfncnpffbmmaa

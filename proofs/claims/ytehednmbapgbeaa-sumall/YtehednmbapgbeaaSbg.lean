/-
  That package sum has begun: the statements' own look at it answers true. What is sealed is opened.
-/
import Derived.Test.YtehednmbapgbeaaSea
import Derived.Test.YtehednmbapgbeaaLit
namespace Go.Proofs.Ytehednmbapgbeaa
open Go.RowKit Go.Deep

theorem nil_bytes (w : World) (x : Nat → Nat) : BytesAt w none 0 x := ⟨fun h => absurd h (by omega), fun i hi => absurd hi (by omega)⟩
/-- What was sealed, read as bytes. -/
theorem seal_bytes {w : World} {g t n : Nat} {x : Nat → Nat} (h : w.rowIs g t (n + 4) (byteAt (Crc.seald x n))) (hx : ∀ i, i < n → x i < 256) : BytesAt w (some ⟨g, 0, none⟩) (n + 4) (Crc.seald x n) :=
  row_bytes' h (fun _ _ => rfl) (fun i _ => Crc.seal_lt hx i)
/-- What was sealed is opened as it was. -/
theorem seal_open (r : Option Addr) (n c : Nat) (x : Nat → Nat) (w : World) (hb : BytesAt w r (n + 4) (Crc.seald x n)) (hx : ∀ i, i < n → x i < 256) (hc : n + 4 ≤ c) (hn : n ≤ 1000) :
    Calls Try.prog 9 #[.slice r (n + 4) c] w fun e w' => OpenIs w n x true e w' := by
  refine (open_any r (n + 4) c _ w hb hc (by omega)).mono ?_
  obtain ⟨q1, q2⟩ := op_yes (Crc.ok_seal hx)
  rw [q1, q2]
  rintro e w' ⟨r', c', rfl, h1, h2, h3, h4, h5⟩
  exact ⟨r', c', rfl, h1, h2, h3, h4.congr fun i hi => by unfold Crc.seald; rw [if_pos hi], h5⟩

set_option maxRecDepth 100000 in
set_option maxHeartbeats 400000 in
theorem begun7 (w : World) :
    Calls Try.prog 7 #[] w fun e w' => e = .returned (.bool true) ∧ Below w.heap.size w w' := by
  have hcv := conv_const
  go_enter Try.func7, Try.ntmps7
  go_wp2_with fail
  have B1 : BytesAt (w.alloc (.cells #[.int .u8 97, .int .u8 98] 5 (2, 3))) (some ⟨w.heap.size, 0, none⟩) 2 (listAt [97, 98]) := bytes_lit w _ _ [97, 98] (by decide)
  have b1 : Below w.heap.size w (w.alloc (.cells #[.int .u8 97, .int .u8 98] 5 (2, 3))) := (Below.refl _ _).alloc (Nat.le_refl _) _
  generalize (w.alloc (.cells #[.int .u8 97, .int .u8 98] 5 (2, 3))) = w1 at *
  refine (seal_any _ 2 2 _ _ B1 (by decide)).mono ?_
  rintro e w2 ⟨rfl, R2, d2⟩
  have B2 := seal_bytes R2 B1.lt
  have b2 := b1.trans (d2.mono b1.size)
  have l2 := B1.lt
  clear R2 b1 d2 B1
  go_wp2_with fail
  refine (seal_open _ 2 6 _ _ B2 l2 (by decide) (by decide)).mono ?_
  rintro e w3 ⟨r3, c3, rfl, -, -, -, B3, d3⟩
  have b3 := b2.trans (d3.mono b2.size)
  clear b2 d3 B2 l2
  go_wp2_with fail
  have B4 := B3.grew ((Below.refl _ w3).alloc (Nat.le_refl _) (.cells #[.int .u8 1, .int .u8 2, .int .u8 3] 5))
  have b4 := b3.alloc b3.size (.cells #[.int .u8 1, .int .u8 2, .int .u8 3] 5)
  generalize (w3.alloc (.cells #[.int .u8 1, .int .u8 2, .int .u8 3] 5)) = w4 at *
  refine (open_few _ 3 3 _ (by decide)).mono ?_
  rintro e w5 ⟨rfl, d5⟩
  have B5 := B4.grew d5
  have b5 := b4.trans (d5.mono b4.size)
  clear b3 B3 b4 B4 d5
  go_wp2_with fail
  refine (sum_any none 0 0 (fun _ => 0) _ (nil_bytes _ _) (by decide)).mono ?_
  rintro e w6 ⟨rfl, d6⟩
  have B6 := B5.grew d6
  have HB : Hid (Below w.heap.size w w6) := b5.trans (d6.mono b5.size)
  have e1 := conv_bytes _ 2 c3 _ _ B6
  rw [show strOf 2 (listAt [97, 98]) = ⟨#[97, 98]⟩ by decide +kernel] at e1
  rw [Crc.sum_zero]
  clear b5 B5 d6 B6 hcv
  go_wp2
  go_ret
  exact ⟨rfl, HB.out⟩
end Go.Proofs.Ytehednmbapgbeaa

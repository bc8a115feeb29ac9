/-
  Two data, the same: the document's SameData.
-/
import Derived.Test.YthlidbenhlidjaaDat
namespace Go.Proofs.Ythlidbenhlidjaa
open Go.RowKit Go.Deep

set_option maxRecDepth 100000 in
set_option maxHeartbeats 400000 in
theorem same_any (s t f y n : Nat) (a a' : Option Addr) (c c' : Nat) (x : Nat → Nat) (w : World) (h : BytesAt w a n x) (h' : BytesAt w a' n x) :
    Calls Try.prog 12 #[.agg #[.int .u16 (s : Int), .int .u16 (t : Int), .int .u32 (f : Int), .int .u16 (y : Int), .slice a n c], .agg #[.int .u16 (s : Int), .int .u16 (t : Int), .int .u32 (f : Int), .int .u16 (y : Int), .slice a' n c']] w
      fun e w' => e = .returned (.bool true) ∧ Below w.heap.size w w' := by
  have b1 : Below w.heap.size w (w.alloc (.cells #[.int .u16 (s : Int), .int .u16 (t : Int), .int .u32 (f : Int), .int .u16 (y : Int), .slice a n c] 40)) := (Below.refl _ _).alloc (Nat.le_refl _) _
  have D1 := DatAt.made w 40 s t f y a n c
  have D2 := DatAt.made (w.alloc (.cells #[.int .u16 (s : Int), .int .u16 (t : Int), .int .u32 (f : Int), .int .u16 (y : Int), .slice a n c] 40)) 40 s t f y a' n c'
  rw [show (w.alloc (.cells #[.int .u16 (s : Int), .int .u16 (t : Int), .int .u32 (f : Int), .int .u16 (y : Int), .slice a n c] 40)).heap.size = w.heap.size + 1 by simp] at D2
  have a2 := (Below.refl (w.alloc (.cells #[.int .u16 (s : Int), .int .u16 (t : Int), .int .u32 (f : Int), .int .u16 (y : Int), .slice a n c] 40)).heap.size (w.alloc (.cells #[.int .u16 (s : Int), .int .u16 (t : Int), .int .u32 (f : Int), .int .u16 (y : Int), .slice a n c] 40))).alloc (Nat.le_refl _) (.cells #[.int .u16 (s : Int), .int .u16 (t : Int), .int .u32 (f : Int), .int .u16 (y : Int), .slice a' n c'] 40)
  have D1 := D1.grew a2
  have b2 := b1.trans (a2.mono b1.size)
  have e1 := conv_bytes a n c x _ (h.grew b2)
  have e2 := conv_bytes a' n c' x _ (h'.grew b2)
  have HB : Hid (Below w.heap.size w ((w.alloc (.cells #[.int .u16 (s : Int), .int .u16 (t : Int), .int .u32 (f : Int), .int .u16 (y : Int), .slice a n c] 40)).alloc (.cells #[.int .u16 (s : Int), .int .u16 (t : Int), .int .u32 (f : Int), .int .u16 (y : Int), .slice a' n c'] 40))) := b2
  obtain ⟨p0, p1, p2, p3, p4, -⟩ := D1
  obtain ⟨q0, q1, q2, q3, q4, -⟩ := D2
  clear b1 a2 b2 h h'
  go_enter Try.func12, Try.ntmps12
  go_wp2
  go_ret
  exact ⟨rfl, HB.out⟩
end Go.Proofs.Ythlidbenhlidjaa

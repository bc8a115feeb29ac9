/-
  What was split, as a list of rows; that package cut has begun.
-/
import Derived.Test.YthllmmakhpmceaaJoi
import Derived.Lib.SlBytesConst
namespace Go.Proofs.Ythllmmakhpmceaa
open Go.RowKit Go.Deep

theorem pcs_lists {w : World} {L n s k : Nat} {x : Nat → Nat} {A : Nat → Value} (h : w.rowIs L 22 k A) (hp : PcsTo w L n s x k A) (s2 : s ≤ 64) : ∃ B : Nat → Nat, (∀ i, i < k → A i = .slice (some ⟨B i, 0, none⟩) s s) ∧ ListsAt w (some ⟨L, 0, none⟩) k (fun i => some ⟨B i, 0, none⟩) (fun _ => s) (fun _ => s) (piece x n s) := by
  obtain ⟨B, hB⟩ := choose_lt hp
  refine ⟨B, fun i hi => (hB i hi).1, fun _ => ⟨L, 0, rfl, fun i hi => ⟨?_, Nat.le_refl _, ?_, (hB i hi).2.2⟩⟩⟩
  · rw [Nat.zero_add, h.cell hi, (hB i hi).1]
  · show s ≤ maxLen; unfold maxLen; omega

theorem joined_piece (x : Nat → Nat) (n s i : Nat) (hi : i < n) : joined (piece x n s) s i = x i := by
  have h := Nat.div_add_mod i s
  unfold joined piece
  rw [Nat.mul_comm (i / s) s, h, if_pos hi]

theorem conv_const (w : World) (C : Array Value) (n c g : Nat) (h : g = w.heap.size) : (convert 22 22 (.slice (some ⟨g, 0, none⟩) n c)).run Try.prog (w.alloc (.cells C 5)) = .ok (.slice (some ⟨g, 0, none⟩) n c) (w.alloc (.cells C 5 (C.size, C.size + 1))) := by
  subst h
  exact Lib.run_convert_bytes_const w 22 5 C n c Try.underlying22 Try.underlying5

/-- A row of bytes that is written out. -/
theorem bytes_lit (w : World) (t : TypeId) (f : Nat × Nat) (l : List Nat) (hl : ∀ i, i < l.length → listAt l i < 256) : BytesAt (w.alloc (.cells (l.map fun (n : Nat) => Value.int .u8 (n : Int)).toArray t f)) (some ⟨w.heap.size, 0, none⟩) l.length (listAt l) := by
  refine ⟨fun _ => ⟨w.heap.size, 0, rfl, fun i hi => ?_⟩, hl⟩
  rw [Nat.zero_add, World.cell?_alloc_mark]
  simp [listAt, List.getD, hi]

set_option maxRecDepth 100000 in
set_option maxHeartbeats 400000 in
theorem begun4 (w : World) :
    Calls Try.prog 6 #[] w fun e w' => e = .returned (.bool true) ∧ Below w.heap.size w w' := by
  have hcv := conv_const
  go_enter Try.func6, Try.ntmps6
  go_wp2_with fail
  refine (face_count_yes 5 2 _ (by decide) (by decide) (by decide) (by decide)).mono ?_
  rintro e w1 ⟨rfl, b1⟩
  go_wp2_with fail
  have B2 : BytesAt (w1.alloc (.cells #[.int .u8 97, .int .u8 98, .int .u8 99] 5 (3, 4))) (some ⟨w1.heap.size, 0, none⟩) 3 (listAt [97, 98, 99]) := bytes_lit w1 _ _ [97, 98, 99] (by decide)
  have b2 : Below w.heap.size w (w1.alloc (.cells #[.int .u8 97, .int .u8 98, .int .u8 99] 5 (3, 4))) := b1.alloc b1.size _
  generalize (w1.alloc (.cells #[.int .u8 97, .int .u8 98, .int .u8 99] 5 (3, 4))) = w2 at *
  refine (face_split_yes _ 3 3 2 2 _ _ B2 (by decide) (by decide) (by decide) (by decide) (by decide) (by decide)).mono ?_
  rintro e w3 ⟨L, A, rfl, hL, hR, hP, b3⟩
  obtain ⟨B, hA, hl⟩ := pcs_lists hR hP (by decide)
  have b3 := b2.trans (b3.mono b2.size)
  clear B2 b1 b2 hL hR hP hA
  go_wp2_with fail
  refine (face_join_yes _ 2 2 2 3 _ _ _ _ _ hl (by decide) (by decide) (fun _ _ => rfl) (by decide) (by decide) (by decide) (by decide) (by decide)).mono ?_
  rintro e w4 ⟨r, c, rfl, -, -, -, B4, b4⟩
  have hl := hl.grew b4
  have b4 := b3.trans (b4.mono b3.size)
  clear b3
  go_wp2_with fail
  refine (face_count_no 0 2 _ (by decide)).mono ?_
  rintro e w5 ⟨rfl, b5⟩
  have B5 := B4.grew b5
  obtain ⟨L', o', e', hc⟩ := hl.grew b5 (by decide)
  cases e'
  obtain ⟨c1, -, -, B6⟩ := hc 1 (by decide)
  have HB : Hid (Below w.heap.size w w5) := b4.trans (b5.mono b4.size)
  have e1 := conv_bytes _ 3 c _ _ B5
  have e2 := conv_bytes _ 2 2 _ _ B6
  rw [show strOf 3 (joined (piece (listAt [97, 98, 99]) 3 2) 2) = ⟨#[97, 98, 99]⟩ by decide +kernel] at e1
  rw [show strOf 2 (piece (listAt [97, 98, 99]) 3 2 1) = ⟨#[99, 0]⟩ by decide +kernel] at e2
  have e3 : ((cntOf 5 2 : Nat) : Int) = 3 := by decide
  clear hl b4 b5 B4 B5 B6 hc hcv
  go_wp2
  go_ret
  exact ⟨rfl, HB.out⟩
end Go.Proofs.Ythllmmakhpmceaa

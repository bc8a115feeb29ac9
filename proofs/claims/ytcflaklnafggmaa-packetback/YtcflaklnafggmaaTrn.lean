/-
  A copy of bytes that may be written, and one byte of sealed ones turned.
-/
import Derived.Test.YtcflaklnafggmaaSea
namespace Go.Proofs.Ytcflaklnafggmaa
open Go.RowKit Go.Deep

/-- append([]byte{}, s...), s of one byte or more: a new row, that may be written. -/
theorem clone_own (b0 : Addr) (ty : TypeId) (r : Option Addr) (n c : Nat) (x : Nat → Nat) (W : World) (hx : BytesAt W r n x) (h0 : 0 < n) (hn : n ≤ 1000000) :
    ∃ cap W', (Builtin.append_ #[24, 24] ty #[.slice (some b0) 0 0, .slice r n c]).run Try.prog W = .ok (.slice (some ⟨W.heap.size, 0, none⟩) n cap) W' ∧ n ≤ cap ∧ BytesAt W' (some ⟨W.heap.size, 0, none⟩) n x ∧ Below W.heap.size W W' ∧ W'.heap.size = W.heap.size + 1 ∧ ∀ i, W'.frozen? ⟨W.heap.size, i, none⟩ = false := by
  obtain ⟨i0, hi, hz0, hz1, hz2⟩ := info_parts Try.infoByte
  obtain ⟨b, o, rfl⟩ := bytes_some hx h0
  have hr := run_append_grow (P := Try.prog) W 24 ty 5 i0 (.int .u8 0) Try.underlying24 hi hz0 b0 0 0 [] (by simp) (by intro j v hj; simp at hj) ⟨b, o, none⟩ n c (cellsAt x 0 n) (by rw [cellsAt_len, hz1, Nat.mul_one])
    (fun j v hj => by
      obtain ⟨hjn, rfl⟩ := cellsAt_get _ _ _ _ _ hj
      rw [Addr.add_mid, Nat.zero_add]
      exact bytes_cell hx j hjn) (by omega) (by omega) (growslice_fits (by omega) (by rw [hz2]; omega))
  simp only [Nat.zero_add] at hr
  refine ⟨_, _, hr, ?_, ⟨fun _ => ⟨W.heap.size, 0, rfl, fun i hi => ?_⟩, hx.lt⟩, (Below.refl _ W).drew.alloc (Nat.le_refl _) _, by simp, fun i => ?_⟩
  · exact grownCap_ge _ _ _ _
  · rw [Nat.zero_add, show (⟨W.heap.size, i, none⟩ : Addr) = ⟨W.drew.heap.size, i, none⟩ from rfl, World.cell?_alloc_at _ _ _ _ rfl]
    have hl : i < (cellsAt x 0 n).length := by rw [cellsAt_len]; exact hi
    simp only [Array.empty_append]
    rw [Array.getElem?_append_left (by simpa using hl)]
    simp [cellsAt, hi]
  · exact frozen_of_row _ W.drew.heap.size i _ 5 (heap_alloc_new W.drew _)

/-- The bytes x, the one at j turned by v. -/
def flip (x : Nat → Nat) (j v i : Nat) : Nat := if i = j then x j ^^^ v else x i
theorem flip_lt {x : Nat → Nat} {n j v : Nat} (hj : j < n) (hx : ∀ i, i < n → x i < 256) (hv : v < 256) (i : Nat) (hi : i < n) : flip x j v i < 256 := by
  unfold flip
  split
  · exact Nat.xor_lt_two_pow (n := 8) (hx j hj) hv
  · exact hx i hi
theorem flip_bytes {w : World} {g n j v : Nat} {x : Nat → Nat} (h : BytesAt w (some ⟨g, 0, none⟩) n x) (hj : j < n) (hv : v < 256) : BytesAt (w.setCell ⟨g, j, none⟩ (.int .u8 ((x j ^^^ v : Nat) : Int))) (some ⟨g, 0, none⟩) n (flip x j v) := by
  refine ⟨fun _ => ⟨g, 0, rfl, fun i hi => ?_⟩, flip_lt hj h.lt hv⟩
  have hc := bytes_cell h i hi
  have hcj := bytes_cell h j hj
  rw [Nat.zero_add] at hc hcj ⊢
  unfold flip
  by_cases e : i = j
  · subst e; rw [if_pos rfl, World.cell?_setCell_same _ _ _ hcj]
  · rw [if_neg e, World.cell?_setCell_other _ _ _ _ (fun h => e (Addr.mk.inj h).2.1.symm)]; exact hc
theorem flipped {x : Nat → Nat} {n j v : Nat} (hx : ∀ i, i < n → x i < 256) (hj : j < n + 4) (hv : v < 256) : opB (flip (Crc.seald x n) j v) (n + 4) = decide (v = 0) := by
  have ls := Crc.seal_lt hx
  by_cases h : v = 0
  · subst h
    have e : ∀ i, flip (Crc.seald x n) j 0 i = Crc.seald x n i := fun i => by
      unfold flip
      split
      · subst_vars; exact Nat.xor_zero _
      · rfl
    have : Crc.ok (flip (Crc.seald x n) j 0) n := (Crc.ok_congr fun i _ => e i).2 (Crc.ok_seal hx)
    rw [(op_yes this).1]; rfl
  · have : ¬ Crc.ok (flip (Crc.seald x n) j v) n := Crc.ok_turned hj (fun i _ => ls i) (flip_lt hj (fun i _ => ls i) hv) (fun i _ hne => by unfold flip; rw [if_neg hne]) (fun e => by
      unfold flip at e
      rw [if_pos rfl] at e
      exact h (Crc.xor_right (a := v) (b := 0) (c := Crc.seald x n j) (by rw [Nat.xor_zero]; exact e.symm))) (Crc.ok_seal hx)
    rw [(op_no this).1]; simp [h]
end Go.Proofs.Ytcflaklnafggmaa

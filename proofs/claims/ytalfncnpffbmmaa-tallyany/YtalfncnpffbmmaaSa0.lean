/-
  A row of uint64 that is sorted in place; the sort's plain functions, a step each.
-/
import Derived.Sort.AssemblyPlain
import Derived.Test.YtalfncnpffbmmaaMem
namespace Go.Proofs.Ytalfncnpffbmmaa
open Go.RowKit Go.Deep

/-- Block b is a row of m cells; d lies in it, from o on. -/
structure Srow (w : World) (b o m : Nat) (d : Array Int) : Prop where
  row : ∃ A, w.rowIs b 26 m A ∧ ∀ i, i < d.size → A (o + i) = .int .u64 d[i]!
  le : o + d.size ≤ m
theorem Srow.cell {w : World} {b o m : Nat} {d : Array Int} (h : Srow w b o m d) (i : Nat) (hi : i < d.size) : w.cell? ⟨b, o + i, none⟩ = some (.int .u64 d[i]!) := by
  obtain ⟨A, hr, hA⟩ := h.row
  rw [hr.cell (by have := h.le; omega), hA i hi]
theorem Srow.thaw {w : World} {b o m : Nat} {d : Array Int} (h : Srow w b o m d) (i : Nat) : w.frozen? ⟨b, i, none⟩ = false := by
  obtain ⟨A, hr, -⟩ := h.row
  exact hr.frozen i
theorem Srow.lt {w : World} {b o m : Nat} {d : Array Int} (h : Srow w b o m d) : b < w.heap.size := by
  obtain ⟨A, hr, -⟩ := h.row
  exact hr.lt
theorem Srow.block {w w' : World} {b o m : Nat} {d : Array Int} (h : Srow w b o m d) (e : w'.heap[b]? = w.heap[b]?) : Srow w' b o m d := by
  obtain ⟨A, hr, hA⟩ := h.row
  exact ⟨⟨A, hr.of_block e, hA⟩, h.le⟩
theorem Srow.same {w w' : World} {b o m : Nat} {d : Array Int} (h : Srow w b o m d) (q : Same w w') : Srow w' b o m d := by
  obtain ⟨n, rfl⟩ := q
  exact h.block rfl
theorem Srow.kept {w w' : World} {b o m R : Nat} {d : Array Int} (h : Srow w b o m d) (q : Kept R w w') (hR : b ≠ R) : Srow w' b o m d := h.block (q.block b h.lt hR)
theorem Srow.grew {w w' : World} {b o m : Nat} {d : Array Int} (h : Srow w b o m d) (q : Below w.heap.size w w') : Srow w' b o m d := h.block (q.block b h.lt)
theorem Srow.swap {w : World} {b o m : Nat} {d : Array Int} (h : Srow w b o m d) (i j : Nat) (hi : i < d.size) (hj : j < d.size) (x y : Int) (hx : x = d[j]!) (hy : y = d[i]!) :
    Srow ((w.setCell ⟨b, o + i, none⟩ (.int .u64 x)).setCell ⟨b, o + j, none⟩ (.int .u64 y)) b o m (Sort.swp d i j) := by
  obtain ⟨A, hr, hA⟩ := h.row
  refine ⟨⟨_, (hr.set (o + i) _).set (o + j) _, fun k hk => ?_⟩, by rw [Sort.size_swp]; exact h.le⟩
  rw [Sort.size_swp] at hk
  show (if o + k = o + j then Value.int .u64 y else if o + k = o + i then Value.int .u64 x else A (o + k)) = _
  by_cases e : k = j
  · subst e
    rw [if_pos rfl, Sort.swp_right d i k hj, hy]
  · rw [if_neg (by omega)]
    by_cases e2 : k = i
    · subst e2
      rw [if_pos rfl, Sort.swp_left d k j hi e, hx]
    · rw [if_neg (by omega), Sort.swp_other d i j k e2 e, hA k hk]
theorem kept_two {w : World} {b : Nat} (i j : Nat) (x y : Value) : Kept b w ((w.setCell ⟨b, i, none⟩ x).setCell ⟨b, j, none⟩ y) := (Kept.set w i x).trans (Kept.set _ j y)

/-! The plain functions, a step each. -/
theorem ins_go (a j : Nat) (d : Array Int) (h : a < j + 1) (hl : d[j + 1]! < d[j]!) : Sort.insInner Sort.ltInt a (j + 1) d = Sort.insInner Sort.ltInt a j (Sort.swp d (j + 1) j) := by
  rw [Sort.insInner, if_pos (by simp [Sort.ltInt, hl, h])]
theorem ins_stop (a j : Nat) (d : Array Int) (hl : ¬ d[j + 1]! < d[j]!) : Sort.insInner Sort.ltInt a (j + 1) d = d := by
  rw [Sort.insInner, if_neg (by simp [Sort.ltInt]; omega)]
theorem ins_end (a : Nat) (d : Array Int) : Sort.insInner Sort.ltInt a a d = d := by
  cases a with
  | zero => rw [Sort.insInner]
  | succ k => rw [Sort.insInner, if_neg (by simp)]
theorem outer_go (a b i : Nat) (d : Array Int) (h : i < b) : Sort.insOuter Sort.ltInt a b i d = Sort.insOuter Sort.ltInt a b (i + 1) (Sort.insInner Sort.ltInt a i d) := by rw [Sort.insOuter, if_pos h]
theorem outer_stop (a b i : Nat) (d : Array Int) (h : ¬ i < b) : Sort.insOuter Sort.ltInt a b i d = d := by rw [Sort.insOuter, if_neg h]
theorem up_go (p : Int → Bool) (d : Array Int) (j i : Nat) (h : i ≤ j) (hp : p d[i]! = true) : Sort.scanUp p d j i = Sort.scanUp p d j (i + 1) := by
  rw [Sort.scanUp, if_pos (by simp [h, hp])]
theorem up_stop (p : Int → Bool) (d : Array Int) (j i : Nat) (h : i ≤ j → p d[i]! = false) : Sort.scanUp p d j i = i := by
  rw [Sort.scanUp, if_neg (by simp; exact h)]
theorem down_go (p : Int → Bool) (d : Array Int) (i j : Nat) (h : i ≤ j + 1) (hp : p d[j + 1]! = true) : Sort.scanDown p d i (j + 1) = Sort.scanDown p d i j := by
  rw [Sort.scanDown, if_pos (by simp [h, hp])]
theorem down_stop (p : Int → Bool) (d : Array Int) (i j : Nat) (h : i ≤ j + 1 → p d[j + 1]! = false) : Sort.scanDown p d i (j + 1) = j + 1 := by
  rw [Sort.scanDown, if_neg (by simp; exact h)]
theorem sorted_go (d : Array Int) (b i : Nat) (h : i < b) (hl : ¬ d[i]! < d[i - 1]!) : Sort.scanSorted Sort.ltInt d b i = Sort.scanSorted Sort.ltInt d b (i + 1) := by
  rw [Sort.scanSorted, if_pos (by simp [Sort.ltInt, h]; omega)]
theorem sorted_stop (d : Array Int) (b i : Nat) (h : i < b → d[i]! < d[i - 1]!) : Sort.scanSorted Sort.ltInt d b i = i := by
  rw [Sort.scanSorted, if_neg (by simp [Sort.ltInt]; exact h)]
end Go.Proofs.Ytalfncnpffbmmaa

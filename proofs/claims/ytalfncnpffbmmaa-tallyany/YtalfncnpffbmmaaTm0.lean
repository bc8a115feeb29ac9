/-
  Law 16 in plain words: numbers that come in order, and in another order.
-/
import Derived.Laws.StructEq
import Derived.Test.YtalfncnpffbmmaaTl9
namespace Go.Proofs.Ytalfncnpffbmmaa
open Go.RowKit Go.Deep

/-- A Tally behind 100, and behind these. -/
def tl0 : Tl := ⟨65636, 65635, 1, 65635, 0, 0, 0, #[65636], fun y => if y = 65636 then true else false⟩
def tlOf (l : List Nat) : Tl := l.foldl (fun s j => s.one (65637 + j)) tl0
theorem tlOf_snoc (l : List Nat) (j : Nat) : tlOf (l ++ [j]) = (tlOf l).one (65637 + j) := by
  unfold tlOf
  rw [List.foldl_append]
  rfl
/-- The greatest of them, and one more (none: 0). -/
def most16 (l : List Nat) : Nat := l.foldl (fun m j => max m (j + 1)) 0
theorem most16_snoc (l : List Nat) (j : Nat) : most16 (l ++ [j]) = max (most16 l) (j + 1) := by
  unfold most16
  rw [List.foldl_append]
  rfl
theorem snoc_ind {P : List Nat → Prop} (h0 : P []) (h1 : ∀ l j, P l → P (l ++ [j])) (l : List Nat) : P l := by
  have H : ∀ l : List Nat, P l.reverse := by
    intro l
    induction l with
    | nil => exact h0
    | cons j l ih => rw [List.reverse_cons]; exact h1 _ _ ih
  have := H l.reverse
  rwa [List.reverse_reverse] at this
theorem tlOf_is (l : List Nat) : (tlOf l).top = 65636 + most16 l ∧ (tlOf l).since = 65635 ∧ (tlOf l).got = l.length + 1 ∧ (tlOf l).settled = 65635 ∧ (tlOf l).burst = 0 ∧ (tlOf l).late = 0 ∧ (tlOf l).twice = 0 ∧
    (tlOf l).d.toList = (65636 : Int) :: l.map (fun j => ((65637 + j : Nat) : Int)) ∧ ∀ j, (tlOf l).S (65637 + j) = decide (j ∈ l) := by
  induction l using snoc_ind with
  | h0 =>
    refine ⟨rfl, rfl, rfl, rfl, rfl, rfl, rfl, rfl, fun j => ?_⟩
    show (if 65637 + j = 65636 then true else false) = _
    rw [if_neg (by omega)]
    simp
  | h1 l j ih =>
    obtain ⟨h1, h2, h3, h4, h5, h6, h7, h8, h9⟩ := ih
    rw [tlOf_snoc, most16_snoc]
    refine ⟨?_, h2, ?_, h4, h5, h6, h7, ?_, fun i => ?_⟩
    · show max (tlOf l).top (65637 + j) = _
      rw [h1]
      omega
    · show (tlOf l).got + 1 = _
      rw [h3]
      simp
    · show ((tlOf l).d.push _).toList = _
      rw [Array.toList_push, h8]
      simp
    · show (if 65637 + i = 65637 + j then true else (tlOf l).S (65637 + i)) = _
      rw [h9]
      by_cases e : i = j
      · rw [if_pos (by omega)]
        simp [e]
      · rw [if_neg (by omega)]
        simp [e]
theorem most16_le (l : List Nat) (M : Nat) (h : ∀ j ∈ l, j < M) : most16 l ≤ M := by
  revert h
  refine snoc_ind (P := fun l => (∀ j ∈ l, j < M) → most16 l ≤ M) ?_ ?_ l
  · intro _
    exact Nat.zero_le _
  · intro l j ih h
    rw [most16_snoc]
    have a := ih (fun i hi => h i (by simp [hi]))
    have b := h j (by simp)
    omega
theorem most16_mem (l : List Nat) : most16 l = 0 ∧ l = [] ∨ ∃ j ∈ l, most16 l = j + 1 := by
  refine snoc_ind (P := fun l => most16 l = 0 ∧ l = [] ∨ ∃ j ∈ l, most16 l = j + 1) ?_ ?_ l
  · exact Or.inl ⟨rfl, rfl⟩
  · intro l j ih
    right
    rw [most16_snoc]
    rcases ih with ⟨h, -⟩ | ⟨i, hi, h⟩
    · exact ⟨j, by simp, by omega⟩
    · by_cases g : i ≤ j
      · exact ⟨j, by simp, by omega⟩
      · exact ⟨i, by simp [hi], by omega⟩
theorem most16_ge (l : List Nat) (j : Nat) (h : j ∈ l) : j < most16 l := by
  revert h
  refine snoc_ind (P := fun l => j ∈ l → j < most16 l) ?_ ?_ l
  · intro h; simp at h
  · intro l i ih h
    rw [most16_snoc]
    rcases List.mem_append.1 h with h | h
    · have := ih h; omega
    · have : j = i := by simpa using h
      omega
theorem most16_perm {l k : List Nat} (h : l.Perm k) : most16 l = most16 k := by
  have a : ∀ {l k : List Nat}, l.Perm k → most16 l ≤ most16 k := by
    intro l k h
    rcases most16_mem l with ⟨e, -⟩ | ⟨j, hj, e⟩
    · omega
    · have := most16_ge k j (h.mem_iff.1 hj)
      omega
  exact Nat.le_antisymm (a h) (a h.symm)

/-! In order. -/
def inOrd (C : Nat → Bool) (i : Nat) : List Nat := (List.range i).filter C
theorem inOrd_yes {C : Nat → Bool} {i : Nat} (h : C i = true) : inOrd C (i + 1) = inOrd C i ++ [i] := by
  unfold inOrd
  rw [List.range_succ, List.filter_append]
  simp [h]
theorem inOrd_no {C : Nat → Bool} {i : Nat} (h : C i = false) : inOrd C (i + 1) = inOrd C i := by
  unfold inOrd
  rw [List.range_succ, List.filter_append]
  simp [h]
theorem inOrd_lt {C : Nat → Bool} {i j : Nat} (h : j ∈ inOrd C i) : j < i := List.mem_range.1 (List.mem_filter.1 h).1
/-- The numbers, from the first on. -/
def ys16 (l : List Nat) (i : Nat) : Nat := if i = 0 then 65636 else 65637 + l.getD (i - 1) 0
theorem ys16_snoc (l : List Nat) (j i : Nat) (h : i ≤ l.length) : ys16 (l ++ [j]) i = ys16 l i := by
  unfold ys16
  split
  · rfl
  · rename_i h0
    simp only [List.getD, List.getElem?_append_left (show i - 1 < l.length by omega)]
theorem ys16_last (l : List Nat) (j : Nat) : ys16 (l ++ [j]) (l.length + 1) = 65637 + j := by
  unfold ys16
  rw [if_neg (by omega), Nat.add_sub_cancel]
  simp
theorem bst_congr {y z : Nat → Nat} {s u : Nat} : ∀ n, (∀ i, i < n → y i = z i) → bst y s u n = bst z s u n ∧ stl y s n = stl z s n
  | 0, _ => ⟨rfl, rfl⟩
  | n + 1, h => by
    obtain ⟨a, b⟩ := bst_congr n (fun i hi => h i (by omega))
    have c := h n (by omega)
    exact ⟨by show max _ _ = max _ _; rw [a, b, c], c⟩
def gap16 (l : List Nat) : Nat := bst (ys16 l) 65635 0 (l.length + 1)
theorem gap16_nil : gap16 [] = 0 := rfl
theorem gap16_snoc (l : List Nat) (j : Nat) : gap16 (l ++ [j]) = max (gap16 l) (65637 + j - stl (ys16 l) 65635 (l.length + 1) - 1) := by
  unfold gap16
  rw [List.length_append]
  show max (bst (ys16 (l ++ [j])) 65635 0 (l.length + 1)) (ys16 (l ++ [j]) (l.length + 1) - stl (ys16 (l ++ [j])) 65635 (l.length + 1) - 1) = _
  obtain ⟨a, b⟩ := bst_congr (s := 65635) (u := 0) (y := ys16 (l ++ [j])) (z := ys16 l) (l.length + 1) (fun i hi => ys16_snoc l j i (by omega))
  rw [a, b, ys16_last]
/-- What a walk in order knows. -/
theorem ord_is (C : Nat → Bool) (i : Nat) : stl (ys16 (inOrd C i)) 65635 ((inOrd C i).length + 1) = 65636 + most16 (inOrd C i) ∧ most16 (inOrd C i) ≤ i ∧ (inOrd C i).length ≤ most16 (inOrd C i) ∧ gap16 (inOrd C i) ≤ i ∧
    (∀ q, q < (inOrd C i).length + 1 → stl (ys16 (inOrd C i)) 65635 q < ys16 (inOrd C i) q) ∧ (∀ q, q < (inOrd C i).length + 1 → ys16 (inOrd C i) q ≤ 65636 + i) := by
  induction i with
  | zero =>
    refine ⟨rfl, Nat.le_refl 0, Nat.le_refl 0, Nat.le_of_eq gap16_nil, fun q hq => ?_, fun q hq => ?_⟩
    · have hq : q < 1 := hq
      obtain rfl : q = 0 := by omega
      show (65635 : Nat) < 65636
      omega
    · have hq : q < 1 := hq
      obtain rfl : q = 0 := by omega
      show (65636 : Nat) ≤ 65636 + 0
      omega
  | succ i ih =>
    cases h : C i with
    | false =>
      rw [inOrd_no h]
      obtain ⟨h1, h2, h3, h4, h5, h6⟩ := ih
      exact ⟨h1, by omega, h3, by omega, h5, fun q hq => by have := h6 q hq; omega⟩
    | true =>
      rw [inOrd_yes h]
      obtain ⟨h1, h2, h3, h4, h5, h6⟩ := ih
      generalize inOrd C i = l at *
      rw [most16_snoc, gap16_snoc, List.length_append]
      have e : stl (ys16 (l ++ [i])) 65635 (l.length + 1 + 1) = 65637 + i := ys16_last l i
      have g : ∀ q, q ≤ l.length + 1 → stl (ys16 (l ++ [i])) 65635 q = stl (ys16 l) 65635 q := fun q hq => (bst_congr (s := 65635) (u := 0) q (fun p hp => ys16_snoc l i p (by omega))).2
      refine ⟨?_, by omega, by simp; omega, by omega, fun q hq => ?_, fun q hq => ?_⟩
      · show stl (ys16 (l ++ [i])) 65635 (l.length + 1 + 1) = _
        rw [e]
        omega
      · have hq : q < l.length + 1 + 1 := hq
        rw [g q (by omega)]
        by_cases hq2 : q = l.length + 1
        · subst hq2
          rw [ys16_last]
          omega
        · rw [ys16_snoc l i q (by omega)]
          exact h5 q (by omega)
      · have hq : q < l.length + 1 + 1 := hq
        by_cases hq2 : q = l.length + 1
        · subst hq2
          rw [ys16_last]
          omega
        · rw [ys16_snoc l i q (by omega)]
          have := h6 q (by omega)
          omega
/-- One round. -/
theorem ord_step {C : Nat → Bool} {i : Nat} (h : C i = true) : gap16 (inOrd C (i + 1)) = max (gap16 (inOrd C i)) (i - most16 (inOrd C i)) ∧ most16 (inOrd C (i + 1)) = i + 1 ∧ (inOrd C (i + 1)).length = (inOrd C i).length + 1 := by
  obtain ⟨h1, h2, -⟩ := ord_is C i
  rw [inOrd_yes h, gap16_snoc, most16_snoc, h1, List.length_append]
  exact ⟨by congr 1; omega, by omega, rfl⟩

/-! In the other order. -/
def kOf (N t i : Nat) : Nat := (N - 1 - i + t) % N
def inTurn (C : Nat → Bool) (N t i : Nat) : List Nat := ((List.range i).map (kOf N t)).filter C
theorem inTurn_yes {C : Nat → Bool} {N t i : Nat} (h : C (kOf N t i) = true) : inTurn C N t (i + 1) = inTurn C N t i ++ [kOf N t i] := by
  unfold inTurn
  rw [List.range_succ, List.map_append, List.filter_append]
  simp [h]
theorem inTurn_no {C : Nat → Bool} {N t i : Nat} (h : C (kOf N t i) = false) : inTurn C N t (i + 1) = inTurn C N t i := by
  unfold inTurn
  rw [List.range_succ, List.map_append, List.filter_append]
  simp [h]
theorem kOf_is {N t i : Nat} (hi : i < N) : kOf N t i = if i < t % N then t % N - 1 - i else N - 1 - i + t % N := by
  unfold kOf
  have h1 : t % N < N := Nat.mod_lt _ (by omega)
  rw [Nat.add_mod, Nat.mod_eq_of_lt (show N - 1 - i < N by omega)]
  split
  · rw [Nat.mod_eq_sub_mod (by omega), Nat.mod_eq_of_lt (by omega)]
    omega
  · rw [Nat.mod_eq_of_lt (by omega)]
theorem kOf_lt {N t i : Nat} (hi : i < N) : kOf N t i < N := Nat.mod_lt _ (by omega)
theorem kOf_inj {N t i j : Nat} (hi : i < N) (hj : j < N) (h : kOf N t i = kOf N t j) : i = j := by
  have h1 : t % N < N := Nat.mod_lt _ (by omega)
  rw [kOf_is hi, kOf_is hj] at h
  split at h <;> split at h <;> omega
theorem inTurn_new {C : Nat → Bool} {N t i : Nat} (hi : i < N) : ¬ kOf N t i ∈ inTurn C N t i := by
  intro h
  obtain ⟨j, hj, e⟩ := List.mem_map.1 (List.mem_filter.1 h).1
  have := List.mem_range.1 hj
  have := kOf_inj (by omega) hi e
  omega
theorem turn_list (N t : Nat) (hN : 0 < N) : ((List.range N).map (kOf N t)).Perm (List.range N) := by
  have h1 : t % N < N := Nat.mod_lt _ hN
  have e : (List.range N).map (kOf N t) = (List.range (t % N)).reverse ++ (List.range' (t % N) (N - t % N)).reverse := by
    refine List.ext_getElem (by simp; omega) (fun i a b => ?_)
    have hi : i < N := by simpa using a
    rw [List.getElem_map, List.getElem_range, kOf_is hi]
    by_cases g : i < t % N
    · rw [if_pos g, List.getElem_append_left (by simpa using g)]
      simp
    · rw [if_neg g, List.getElem_append_right (by simpa using g)]
      simp
      omega
  rw [e]
  have f : List.range N = List.range (t % N) ++ List.range' (t % N) (N - t % N) := by
    refine List.ext_getElem (by simp; omega) (fun i a b => ?_)
    by_cases g : i < t % N
    · rw [List.getElem_append_left (by simpa using g)]
      simp
    · rw [List.getElem_append_right (by simpa using g)]
      simp
      omega
  rw [f]
  exact List.Perm.append (List.reverse_perm _) (List.reverse_perm _)
theorem turn_perm (C : Nat → Bool) (N t : Nat) : (inTurn C N t N).Perm (inOrd C N) := by
  by_cases hN : 0 < N
  · exact (turn_list N t hN).filter C
  · have : N = 0 := by omega
    subst this
    exact List.Perm.refl _
/-- The row that both are when they are sorted. -/
def rowOf16 (l : List Nat) : Array Int := ((65636 : Int) :: l.map (fun j => ((65637 + j : Nat) : Int))).toArray
theorem rowOf_size (l : List Nat) : (rowOf16 l).size = l.length + 1 := by simp [rowOf16]
theorem rowOf_at (l : List Nat) (i : Nat) (h : i < l.length + 1) : (rowOf16 l)[i]! = (ys16 l i : Int) := by
  unfold rowOf16 ys16
  cases i with
  | zero => rfl
  | succ i =>
    rw [if_neg (by omega), Nat.add_sub_cancel]
    have : i < l.length := by omega
    simp [this]
theorem ys_mono (y : Nat → Nat) (s n : Nat) (h : ∀ i, i < n → stl y s i < y i) : ∀ i j, i < j → j < n → y i < y j := by
  intro i j hij
  induction j with
  | zero => omega
  | succ j ih =>
    intro hj
    have a : y j < y (j + 1) := h (j + 1) hj
    by_cases e : i = j
    · subst e; exact a
    · exact Nat.lt_trans (ih (by omega) (by omega)) a
theorem tlOf_row (l : List Nat) : (tlOf l).d = rowOf16 l := by
  have := (tlOf_is l).2.2.2.2.2.2.2.1
  unfold rowOf16
  rw [← this]
/-- Whatever has these numbers in whatever order is sorted to them in order. -/
theorem sorts_to (C : Nat → Bool) (N : Nat) (k : List Nat) (hk : k.Perm (inOrd C N)) : (tlOf k).d.size = (inOrd C N).length + 1 ∧ ∀ R, SortTo 0 ((inOrd C N).length + 1) (tlOf k).d R → ∀ i, i < (inOrd C N).length + 1 → R[i]! = (ys16 (inOrd C N) i : Int) := by
  have hs : (tlOf k).d.size = (inOrd C N).length + 1 := by rw [tlOf_row, rowOf_size, hk.length_eq]
  refine ⟨hs, fun R hR i hi => ?_⟩
  have hE : SortTo 0 ((inOrd C N).length + 1) (tlOf k).d (rowOf16 (inOrd C N)) := by
    refine ⟨⟨by rw [rowOf_size, hs], fun i h => ?_, ?_⟩, fun i j _ hij hj => decide_eq_false ?_⟩
    · have h : (inOrd C N).length + 1 ≤ i := by omega
      rw [getElem!_neg _ _ (by rw [rowOf_size]; omega), getElem!_neg _ _ (by rw [hs]; omega)]
    · rw [← rowOf_size (inOrd C N), Array.extract_size, tlOf_row]
      have e : (rowOf16 k).extract 0 (rowOf16 (inOrd C N)).size = rowOf16 k := by
        rw [show (rowOf16 (inOrd C N)).size = (rowOf16 k).size by rw [rowOf_size, rowOf_size, hk.length_eq], Array.extract_size]
      rw [e]
      exact ((hk.symm.map _).cons _)
    · rw [rowOf_at _ j hj, rowOf_at _ i (by omega)]
      have := ys_mono _ _ _ (ord_is C N).2.2.2.2.1 i j hij hj
      omega
  rw [sort_same hs hE hR, rowOf_at _ i hi]

set_option maxRecDepth 100000 in
theorem rp_eq (t l g u : Nat) (w : World) : (binOp .eql 32 (.agg #[.int .u64 (t : Int), .int .u32 (l : Int), .int .u32 (g : Int), .int .u16 (u : Int), .int .u16 0]) (.agg #[.int .u64 (t : Int), .int .u32 (l : Int), .int .u32 (g : Int), .int .u16 (u : Int), .int .u16 0])).run Try.prog w = .ok (.bool true) w := by
  have hS : Try.prog.underlying 32 = some (.struct (Try.prog.fieldsOf 32)) := by kernel_rfl
  have hp : Try.prog.stoodInHeld 32 = false := by kernel_rfl
  rw [run_eql_struct, show (10000 : Nat) = 9999 + 1 from rfl, run_equalIn_agg w 9999 32 _ _ hS hp]
  simp only [Program.fieldsOf, Try.underlying32]
  go_simp
end Go.Proofs.Ytalfncnpffbmmaa

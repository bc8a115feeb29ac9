/-
  Ways in a graph of numbers; marks; who is picked. No program.
-/
import Derived.Test.YtclbcggbnbimaaaUor
namespace Go.Proofs.Ytclbcggbnbimaaa
open Go.RowKit Go.Deep

/-- A way of one step or more. -/
inductive Up (E : Nat → Nat → Prop) : Nat → Nat → Prop
  | one {i p : Nat} (h : E i p) : Up E i p
  | more {i q p : Nat} (h : E i q) (t : Up E q p) : Up E i p
theorem Up.trans {E : Nat → Nat → Prop} {a b c : Nat} (h : Up E a b) (k : Up E b c) : Up E a c := by
  induction h with
  | one h => exact .more h k
  | more h _ ih => exact .more h (ih k)
theorem Up.turn {E F : Nat → Nat → Prop} (hE : ∀ i p, E i p → F p i) {a b : Nat} (h : Up E a b) : Up F b a := by
  induction h with
  | one h => exact .one (hE _ _ h)
  | more h _ ih => exact ih.trans (.one (hE _ _ h))
theorem Up.mono {E F : Nat → Nat → Prop} (hE : ∀ i p, E i p → F i p) {a b : Nat} (h : Up E a b) : Up F a b := by
  induction h with
  | one h => exact .one (hE _ _ h)
  | more h _ ih => exact .more (hE _ _ h) ih
theorem Up.falls {E : Nat → Nat → Prop} (hE : ∀ i p, E i p → p < i) {a b : Nat} (h : Up E a b) : b < a := by
  induction h with
  | one h => exact hE _ _ h
  | more h _ ih => exact Nat.lt_trans ih (hE _ _ h)
/-- Its first step. -/
theorem Up.first {E : Nat → Nat → Prop} {a b : Nat} (h : Up E a b) : ∃ q, E a q ∧ (q = b ∨ Up E q b) := by
  cases h with
  | one h => exact ⟨_, h, .inl rfl⟩
  | more h t => exact ⟨_, h, .inr t⟩
theorem Up.last {E : Nat → Nat → Prop} {a b : Nat} (h : Up E a b) : ∃ q, E q b := by
  induction h with
  | one h => exact ⟨_, h⟩
  | more _ _ ih => exact ih
/-- Whatever is shut and holds what is behind s holds all that s leads to. -/
theorem Up.into {E : Nat → Nat → Prop} {M : Nat → Prop} {s : Nat} (h0 : ∀ q, E s q → M q) (h1 : ∀ q, M q → ∀ r, E q r → M r) {b : Nat} (k : Up E s b) : M b := by
  have g : ∀ a c, Up E a c → (∀ q, E a q → M q) → M c := by
    intro a c u
    induction u with
    | one e => exact fun f => f _ e
    | more e _ ih => exact fun f => ih (h1 _ (f _ e))
  exact g s b k h0

/-- How many below m are not marked. -/
def unm (g : Nat → Bool) : Nat → Nat
  | 0 => 0
  | m + 1 => unm g m + (if g m = true then 0 else 1)
theorem unm_le (g : Nat → Bool) : ∀ m, unm g m ≤ m
  | 0 => Nat.le_refl _
  | m + 1 => by
    have := unm_le g m
    unfold unm
    split <;> omega
theorem unm_mono {g g' : Nat → Bool} : ∀ m, (∀ q, q < m → g q = true → g' q = true) → unm g' m ≤ unm g m
  | 0, _ => Nat.le_refl _
  | m + 1, h => by
    have a := unm_mono m (fun q hq => h q (by omega))
    have b := h m (by omega)
    unfold unm
    by_cases e : g m = true
    · rw [if_pos e, if_pos (b e)]; omega
    · rw [if_neg e]
      split <;> omega
theorem unm_lt {g g' : Nat → Bool} {p : Nat} (h0 : g p = false) (h1 : g' p = true) : ∀ m, p < m → (∀ q, q < m → g q = true → g' q = true) → unm g' m < unm g m
  | 0, hp, _ => absurd hp (by omega)
  | m + 1, hp, h => by
    unfold unm
    by_cases e : p = m
    · subst e
      have a := unm_mono p (fun q hq => h q (by omega))
      rw [if_pos h1, h0, if_neg (by decide)]
      omega
    · have a := unm_lt h0 h1 m (by omega) (fun q hq => h q (by omega))
      have b := h m (by omega)
      by_cases e2 : g m = true
      · rw [if_pos e2, if_pos (b e2)]; omega
      · rw [if_neg e2]
        split <;> omega
theorem unm_pos {g : Nat → Bool} {p : Nat} (h0 : g p = false) : ∀ m, p < m → 0 < unm g m
  | 0, hp => absurd hp (by omega)
  | m + 1, hp => by
    unfold unm
    by_cases e : p = m
    · subst e
      rw [h0, if_neg (by decide)]
      omega
    · have := unm_pos h0 m (by omega)
      omega
/-- One more is marked. -/
def mark (g : Nat → Bool) (p : Nat) : Nat → Bool := fun q => if q = p then true else g q
theorem mark_self (g : Nat → Bool) (p : Nat) : mark g p p = true := if_pos rfl
theorem mark_old {g : Nat → Bool} {p q : Nat} (h : g q = true) : mark g p q = true := by
  unfold mark
  split
  · rfl
  · exact h
theorem mark_inv {g : Nat → Bool} {p q : Nat} (h : mark g p q = true) : q = p ∨ g q = true := by
  unfold mark at h
  split at h
  · exact .inl (by assumption)
  · exact .inr h

/-- What a walk from p marks, behind g. -/
structure Dfs (E : Nat → Nat → Prop) (g : Nat → Bool) (p : Nat) (g' : Nat → Bool) : Prop where
  old : ∀ q, g q = true → g' q = true
  way : ∀ q, g' q = true → g q = true ∨ Up E p q
  all : ∀ q, E p q → g' q = true
  shut : ∀ q, g' q = true → g q = true ∨ ∀ r, E q r → g' r = true
/-- .. on its way: the first j of those that lie behind p, told by x, are done. -/
structure DfsTo (E : Nat → Nat → Prop) (g : Nat → Bool) (p : Nat) (x : Nat → Nat) (j : Nat) (g' : Nat → Bool) : Prop where
  old : ∀ q, g q = true → g' q = true
  way : ∀ q, g' q = true → g q = true ∨ Up E p q
  all : ∀ i, i < j → g' (x i) = true
  shut : ∀ q, g' q = true → g q = true ∨ ∀ r, E q r → g' r = true
theorem DfsTo.nil (E : Nat → Nat → Prop) (g : Nat → Bool) (p : Nat) (x : Nat → Nat) : DfsTo E g p x 0 g :=
  ⟨fun _ h => h, fun _ h => .inl h, fun _ h => absurd h (Nat.not_lt_zero _), fun _ h => .inl h⟩
theorem DfsTo.skip {E : Nat → Nat → Prop} {g g' : Nat → Bool} {p j : Nat} {x : Nat → Nat} (h : DfsTo E g p x j g') (hx : g' (x j) = true) : DfsTo E g p x (j + 1) g' :=
  ⟨h.old, h.way, fun i hi => by
    by_cases e : i = j
    · rw [e]; exact hx
    · exact h.all i (by omega), h.shut⟩
theorem DfsTo.step {E : Nat → Nat → Prop} {g g' g3 : Nat → Bool} {p j : Nat} {x : Nat → Nat} (h : DfsTo E g p x j g') (he : E p (x j)) (k : Dfs E (mark g' (x j)) (x j) g3) : DfsTo E g p x (j + 1) g3 where
  old q hq := k.old q (mark_old (h.old q hq))
  way q hq := by
    rcases k.way q hq with a | a
    · rcases mark_inv a with rfl | a
      · exact .inr (.one he)
      · exact h.way q a
    · exact .inr (.more he a)
  all i hi := by
    by_cases e : i = j
    · rw [e]; exact k.old _ (mark_self _ _)
    · exact k.old _ (mark_old (h.all i (by omega)))
  shut q hq := by
    rcases k.shut q hq with a | a
    · rcases mark_inv a with rfl | a
      · exact .inr k.all
      · rcases h.shut q a with b | b
        · exact .inl b
        · exact .inr fun r hr => k.old r (mark_old (b r hr))
    · exact .inr a
theorem DfsTo.done {E : Nat → Nat → Prop} {g g' : Nat → Bool} {p j : Nat} {x : Nat → Nat} (h : DfsTo E g p x j g') (hx : ∀ q, E p q → ∃ i, i < j ∧ x i = q) : Dfs E g p g' :=
  ⟨h.old, h.way, fun q hq => by
    obtain ⟨i, hi, rfl⟩ := hx q hq
    exact h.all i hi, h.shut⟩
theorem Dfs.reach {E : Nat → Nat → Prop} {p : Nat} {g' : Nat → Bool} (h : Dfs E (fun _ => false) p g') (q : Nat) : g' q = true ↔ Up E p q := by
  refine ⟨fun a => (h.way q a).resolve_left (by decide), fun a => ?_⟩
  exact a.into (M := fun q => g' q = true) h.all (fun q hq => (h.shut q hq).resolve_left (by decide))

/-- Those of the first m that are picked, in order. -/
def picked (sel : Nat → Bool) (m : Nat) : List Nat := (List.range m).filter sel
theorem picked_zero (sel : Nat → Bool) : picked sel 0 = [] := rfl
theorem picked_yes {sel : Nat → Bool} {m : Nat} (h : sel m = true) : picked sel (m + 1) = picked sel m ++ [m] := by
  simp [picked, List.range_succ, List.filter_append, h]
theorem picked_no {sel : Nat → Bool} {m : Nat} (h : sel m = false) : picked sel (m + 1) = picked sel m := by
  simp [picked, List.range_succ, List.filter_append, h]
theorem picked_le (sel : Nat → Bool) (m : Nat) : (picked sel m).length ≤ m := by
  have := List.length_filter_le sel (List.range m)
  rw [List.length_range] at this
  exact this
theorem picked_congr {sel sel' : Nat → Bool} {m : Nat} (h : ∀ q, q < m → sel q = sel' q) : picked sel m = picked sel' m :=
  List.filter_congr fun q hq => h q (List.mem_range.1 hq)
theorem picked_mem {sel : Nat → Bool} {m q : Nat} : q ∈ picked sel m ↔ q < m ∧ sel q = true := by simp [picked]
theorem picked_rise (sel : Nat → Bool) (m : Nat) : (picked sel m).Pairwise (· < ·) := List.Pairwise.filter _ (List.pairwise_lt_range)
theorem picked_at {sel : Nat → Bool} {m j : Nat} (h : j < (picked sel m).length) : (picked sel m).getD j 0 < m ∧ sel ((picked sel m).getD j 0) = true := by
  have e : (picked sel m).getD j 0 = (picked sel m)[j] := by simp [List.getD, h]
  rw [e]
  exact picked_mem.1 (List.getElem_mem h)
theorem picked_lt {sel : Nat → Bool} {m i j : Nat} (hij : i < j) (h : j < (picked sel m).length) : (picked sel m).getD i 0 < (picked sel m).getD j 0 := by
  have e : (picked sel m).getD j 0 = (picked sel m)[j] := by simp [List.getD, h]
  have e2 : (picked sel m).getD i 0 = (picked sel m)[i] := by simp [List.getD, show i < (picked sel m).length by omega]
  rw [e, e2]
  exact List.pairwise_iff_getElem.1 (picked_rise sel m) i j (by omega) h hij
theorem picked_has {sel : Nat → Bool} {m q : Nat} (hq : q < m) (h : sel q = true) : ∃ j, j < (picked sel m).length ∧ (picked sel m).getD j 0 = q := by
  obtain ⟨j, hj, e⟩ := List.getElem_of_mem (picked_mem.2 ⟨hq, h⟩)
  refine ⟨j, hj, ?_⟩
  simp [List.getD, hj, e]

/-- Place i names place p among its Refs. -/
def Edge (K : Nat → Fr) (R : Nat → Nat → Int) (m i p : Nat) : Prop := i < m ∧ p < m ∧ ∃ j, j < (K i).n ∧ R i j = ((K p).id : Int)
/-- IDs that rise. -/
def Rise (K : Nat → Fr) (m : Nat) : Prop := ∀ p q, p < q → q < m → (K p).id < (K q).id
theorem Rise.eq {K : Nat → Fr} {m p q : Nat} (h : Rise K m) (hp : p < m) (hq : q < m) (e : (K p).id = (K q).id) : p = q := by
  rcases Nat.lt_trichotomy p q with g | g | g
  · have := h p q g hq; omega
  · exact g
  · have := h q p g hp; omega
/-- The IDs of those in the list L, in a row of the call's own. -/
def Told (w : World) (base : Nat) (v : Value) (L : List Nat) (K : Nat → Fr) : Prop := ∃ x, Uor w base v L.length x ∧ ∀ j, j < L.length → x j = ((K (L.getD j 0)).id : Int)
theorem Told.nil (w : World) (base : Nat) (K : Nat → Fr) : Told w base (.slice none 0 0) [] K := ⟨fun _ => 0, Uor.nil _ _ _, fun j hj => absurd hj (Nat.not_lt_zero j)⟩
theorem Told.grew {w w' : World} {base : Nat} {v : Value} {L : List Nat} {K : Nat → Fr} (h : Told w base v L K) (hb : Below w.heap.size w w') : Told w' base v L K := by
  obtain ⟨x, h1, h2⟩ := h
  exact ⟨x, h1.grew hb, h2⟩
theorem Told.base {w : World} {base base' : Nat} {v : Value} {L : List Nat} {K : Nat → Fr} (h : Told w base v L K) (hb : base' ≤ base) : Told w base' v L K := by
  obtain ⟨x, h1, h2⟩ := h
  exact ⟨x, h1.base hb, h2⟩
/-- What Above and Below answer: the IDs of those of whom P holds, rising. -/
def ToldIs (w : World) (m : Nat) (K : Nat → Fr) (P : Nat → Prop) (e : Ending) (w' : World) : Prop :=
  Below w.heap.size w w' ∧ ∃ v sel, e = .returned v ∧ (∀ q, q < m → (sel q = true ↔ P q)) ∧ Told w' w.heap.size v (picked sel m) K
end Go.Proofs.Ytclbcggbnbimaaa

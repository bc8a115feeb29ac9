/-
  Package tree: who hangs on each, and who of them directly.
-/
import Derived.Test.YtclbcggbnbimaaaFlw
namespace Go.Proofs.Ytclbcggbnbimaaa
open Go.RowKit Go.Deep

theorem Crowd.below {w w' : World} {a : Option Addr} {m B : Nat} {K : Nat → Fr} {R : Nat → Nat → Int} (h : Crowd w a m K R) (hb : Below B w w') (hB : w.heap.size ≤ B) : Crowd w' a m K R := h.grew (hb.mono hB)
/-- A row of rows of the call's own: at place p lie N p places X p. -/
structure Hgr (w : World) (Bh base m : Nat) (V : Nat → Value) (N : Nat → Nat) (X : Nat → Nat → Nat) : Prop where
  row : w.rowIs Bh 60 m V
  each : ∀ p, p < m → Ior w base (V p) (N p) (fun j => (X p j : Int))
  apart : ∀ p q, p < m → q < m → p ≠ q → ∀ g, (V p).ownBlock = some g → (V q).ownBlock ≠ some g
  lt : Bh < base
theorem Hgr.grew {w w' : World} {Bh base m : Nat} {V : Nat → Value} {N : Nat → Nat} {X : Nat → Nat → Nat} (h : Hgr w Bh base m V N X) (hb : Below w.heap.size w w') : Hgr w' Bh base m V N X :=
  ⟨World.rowIs.of_block h.row (hb.block Bh (World.rowIs.lt h.row)), fun p hp => (h.each p hp).grew hb, h.apart, h.lt⟩
theorem Ior.grownBy {w w' : World} {base n : Nat} {v : Value} {x : Nat → Int} {row : Option Nat} (h : Ior w base v n x) (hg : w.grownBy w' row) (hne : ∀ g, v.ownBlock = some g → row ≠ some g) : Ior w' base v n x := by
  have h' : w.ownsRow base 3 1 v n (icells x n) := h
  refine h'.kept (row := row) hg ?_
  cases e : v.ownBlock with
  | none => exact .inl rfl
  | some g => exact .inr (fun e2 => hne g e e2.symm)
/-- One more is put to one row. -/
theorem Hgr.push {w z1 z2 : World} {Bh base m p i : Nat} {v' : Value} {V : Nat → Value} {N : Nat → Nat} {X : Nat → Nat → Nat} (h : Hgr w Bh base m V N X) (hp : p < m) (_ : base ≤ w.heap.size) (hb : Below w.heap.size w z1) (ho : Ior z2 base v' (N p + 1) (fun j => (((fun j => if j < N p then X p j else i) j : Nat) : Int))) (hg : z1.grownBy z2 (V p).ownBlock) (hw : v'.ownBlock = (V p).ownBlock ∨ v'.ownBlock = some z1.heap.size) :
    Hgr (z2.setCell ⟨Bh, p, none⟩ v') Bh base m (fun q => if q = p then v' else V q) (fun q => if q = p then N p + 1 else N q) (fun q => if q = p then (fun j => if j < N p then X p j else i) else X q) := by
  have h1 := h.grew hb
  have hK : Kept Bh z2 (z2.setCell ⟨Bh, p, none⟩ v') := Kept.set _ _ _
  have hrow : z2.rowIs Bh 60 m V := World.rowIs.of_block h1.row (hg.block Bh (World.rowIs.lt h1.row) (fun e => by
    have := (World.ownsRow.lt (h1.each p hp) Bh e.symm).1
    have := h.lt
    omega))
  refine ⟨World.rowIs.set hrow p v', fun q hq => ?_, fun q r hq hr hne g e1 e2 => ?_, h.lt⟩
  · by_cases e : q = p
    · subst e
      simp only [if_true]
      exact ho.kept hK h.lt
    · simp only [if_neg e]
      exact ((h1.each q hq).grownBy hg (fun g e2 e3 => h1.apart p q hp hq (fun e4 => e e4.symm) g e3 e2)).kept hK h.lt
  · by_cases eq : q = p
    · subst eq
      have er : ¬ r = q := fun e => hne e.symm
      simp only [if_true] at e1
      simp only [if_neg er] at e2
      rcases hw with hw | hw
      · rw [hw] at e1
        exact h1.apart q r hp hr hne g e1 e2
      · rw [hw] at e1
        cases e1
        have := (World.ownsRow.lt (h1.each r hr) _ e2).2
        omega
    · simp only [if_neg eq] at e1
      by_cases er : r = p
      · subst er
        simp only [if_true] at e2
        rcases hw with hw | hw
        · rw [hw] at e2
          exact h1.apart q r hq hp hne g e1 e2
        · rw [hw] at e2
          cases e2
          have := (World.ownsRow.lt (h1.each q hq) _ e1).2
          omega
      · simp only [if_neg er] at e2
        exact h1.apart q r hq hr hne g e1 e2
/-- What the rows hold, behind t places and k of the neighbours y of the next. -/
structure TurnTo (E : Nat → Nat → Prop) (m t k : Nat) (y : Nat → Nat) (N : Nat → Nat) (X : Nat → Nat → Nat) : Prop where
  yes : ∀ p, p < m → ∀ j, j < N p → E (X p j) p
  all : ∀ i, i < t → ∀ p, E i p → ∃ j, j < N p ∧ X p j = i
  now : ∀ i, i < k → ∃ j, j < N (y i) ∧ X (y i) j = t
  le : ∀ p, p < m → N p ≤ 1000 * t + k
theorem TurnTo.nil (E : Nat → Nat → Prop) (m : Nat) (y : Nat → Nat) : TurnTo E m 0 0 y (fun _ => 0) (fun _ _ => 0) :=
  ⟨fun _ _ j h => absurd h (Nat.not_lt_zero j), fun i h => absurd h (Nat.not_lt_zero i), fun i h => absurd h (Nat.not_lt_zero i), fun _ _ => Nat.zero_le _⟩
theorem TurnTo.push {E : Nat → Nat → Prop} {m t k : Nat} {y : Nat → Nat} {N : Nat → Nat} {X : Nat → Nat → Nat} (h : TurnTo E m t k y N X) (he : E t (y k)) :
    TurnTo E m t (k + 1) y (fun q => if q = y k then N (y k) + 1 else N q) (fun q => if q = y k then (fun j => if j < N (y k) then X (y k) j else t) else X q) := by
  have old : ∀ p i, (∃ j, j < N p ∧ X p j = i) → ∃ j, j < (if p = y k then N (y k) + 1 else N p) ∧ (if p = y k then (fun j => if j < N (y k) then X (y k) j else t) else X p) j = i := by
    intro p i ⟨j, h1, h2⟩
    by_cases e : p = y k
    · rw [if_pos e, if_pos e]
      rw [e] at h1 h2
      exact ⟨j, by omega, by simp only [if_pos h1]; exact h2⟩
    · rw [if_neg e, if_neg e]
      exact ⟨j, h1, h2⟩
  refine ⟨fun p hp j hj => ?_, fun i hi p hE => old p i (h.all i hi p hE), fun i hi => ?_, fun p hp => ?_⟩
  · by_cases e : p = y k
    · simp only [if_pos e] at hj ⊢
      by_cases e2 : j < N (y k)
      · simp only [if_pos e2]
        rw [e]
        exact h.yes (y k) (e ▸ hp) j e2
      · simp only [if_neg e2]
        rw [e]
        exact he
    · simp only [if_neg e] at hj ⊢
      exact h.yes p hp j hj
  · by_cases e : i = k
    · subst e
      refine ⟨N (y i), by simp, by simp⟩
    · exact old (y i) t (h.now i (by omega))
  · have := h.le p hp
    show (if p = y k then N (y k) + 1 else N p) ≤ _
    by_cases e : p = y k
    · rw [if_pos e, ← e]; omega
    · rw [if_neg e]; omega
theorem TurnTo.next {E : Nat → Nat → Prop} {m t k : Nat} {y : Nat → Nat} {N : Nat → Nat} {X : Nat → Nat → Nat} (h : TurnTo E m t k y N X) (hk : k ≤ 1000) (hall : ∀ p, E t p → ∃ i, i < k ∧ y i = p) (z : Nat → Nat) : TurnTo E m (t + 1) 0 z N X :=
  ⟨h.yes, fun i hi p hE => by
    by_cases e : i = t
    · subst e
      obtain ⟨j, h1, rfl⟩ := hall p hE
      exact h.now j h1
    · exact h.all i (by omega) p hE, fun i hi => absurd hi (Nat.not_lt_zero i), fun p hp => by have := h.le p hp; omega⟩
/-- What turned answers. -/
def TurnedIs (w : World) (m : Nat) (E : Nat → Nat → Prop) (e : Ending) (w' : World) : Prop :=
  Below w.heap.size w w' ∧ ∃ (Bh base : Nat) (V : Nat → Value) (N : Nat → Nat) (X : Nat → Nat → Nat) (y : Nat → Nat), e = .returned (.slice (some ⟨Bh, 0, none⟩) m m) ∧ Hgr w' Bh base m V N X ∧ TurnTo E m m 0 y N X
theorem Try.infoInts : (Try.prog.info? 60).map (fun i => (i.zero, i.size, i.bytes)) = some (some (.slice none 0 0), 1, 24) := by kernel_rfl
theorem make_rows (m : Nat) (w : World) (hm : m ≤ 1000) : (Instr.makeSlice 53 (.int .i64 (m : Int)) (.int .i64 (m : Int))).run Try.prog w = .ok (.slice (some ⟨w.heap.size, 0, none⟩) m m) (w.alloc (.cells (madeCells #[.slice none 0 0] m) 60)) :=
  run_make_row' 53 60 (.slice none 0 0) 24 Try.underlying53 Try.infoInts rfl .i64 .i64 m (by omega) (by omega) w
theorem Hgr.made (w : World) (m : Nat) : Hgr (w.alloc (.cells (madeCells #[.slice none 0 0] m) 60)) w.heap.size (w.heap.size + 1) m (fun _ => .slice none 0 0) (fun _ => 0) (fun _ _ => 0) :=
  ⟨World.rowIs_made w (.slice none 0 0) m 60, fun _ _ => Ior.nil _ _ _, fun _ _ _ _ _ g e => (by cases e), Nat.lt_succ_self _⟩
end Go.Proofs.Ytclbcggbnbimaaa

/-
  Rows eliminated as they came and rows brought into steps anew come to the same: one step more, and the symbols. Plain mathematics.
-/
import Derived.Test.YtgbeklifcchmlaaGau
import Derived.Test.YtgbeklifcchmlaaLia
namespace Go.Proofs.Ytgbeklifcchmlaa

structure PInv (k d : Nat) (S : Nat → Option (Nat → Nat)) (V : Nat → Nat → Nat) : Prop where
  red : Red S k
  to : ∀ g, Rw S k g → Sp (Gn V d) g
  back : ∀ t, t < d → Sp (Rw S k) (V t)
  rk : rankTo S k = d
theorem PInv.byt {k d : Nat} {S : Nat → Option (Nat → Nat)} {V : Nat → Nat → Nat} (h : PInv k d S V) (t : Nat) (ht : t < d) : Byt (V t) := (h.back t ht).byt
theorem PInv.empty (k : Nat) (V : Nat → Nat → Nat) : PInv k 0 (fun _ => none) V :=
  ⟨Red.empty k, fun _ ⟨_, _, h⟩ => (nomatch h), fun _ h => absurd h (Nat.not_lt_zero _), by
    induction k with
    | zero => rfl
    | succ k ih => show rankTo _ k + _ = 0; rw [ih]; rfl⟩

theorem PInv.step {k d : Nat} {S : Nat → Option (Nat → Nat)} {V : Nat → Nat → Nat} (h : PInv k d S V) {v : Nat → Nat} (hv : Byt v) :
    (addOf S k v = (false, S) ∧ ∀ n Vr T, Stg (d + 1) k n (more V d v) Vr T → n = d) ∨
    (∃ S', addOf S k v = (true, S') ∧ PInv k (d + 1) S' (more V d v) ∧ ∀ n Vr T, Stg (d + 1) k n (more V d v) Vr T → n = d + 1) := by
  have gen : ∀ g, Gn V d g → Sp (Gn (more V d v) (d + 1)) g := by
    rintro g ⟨t, ht, rfl⟩
    exact Sp.gen ⟨t, by omega, more_old V d v t ht⟩ (h.byt t ht)
  rcases add_spec h.red hv with ⟨e, u, hu, huv⟩ | ⟨S', e, hR, h1, h2, h3, h4, -⟩
  · refine .inl ⟨e, fun n Vr T st => ?_⟩
    rw [← h.rk]
    refine st.rank h.red (fun g hg => (h.to g hg).mono gen) (fun t ht => ?_)
    by_cases et : t = d
    · subst et; exact ⟨u, hu, fun j hj => by rw [more_new]; exact huv j hj⟩
    · exact ⟨V t, h.back t (by omega), fun j _ => by rw [← more_old V d v t (by omega)]⟩
  · have to' : ∀ g, Rw S' k g → Sp (Gn (more V d v) (d + 1)) g := fun g hg => (h1 g hg).mono fun g hg => by
      rcases hg with hg | rfl
      · exact (h.to g hg).mono gen
      · exact Sp.gen ⟨d, by omega, (more_new V d g).symm⟩ hv
    have back' : ∀ t, t < d + 1 → Sp (Rw S' k) (more V d v t) := fun t ht => by
      by_cases et : t = d
      · subst et; rw [more_new]; exact h3
      · rw [← more_old V d v t (by omega)]; exact (h.back t (by omega)).mono h2
    have rk' : rankTo S' k = d + 1 := by rw [h4, h.rk]
    refine .inr ⟨S', e, ⟨hR, to', back', rk'⟩, fun n Vr T st => ?_⟩
    rw [← rk']
    exact st.rank hR to' fun t ht => ⟨_, back' t ht, fun _ _ => rfl⟩

/-- With as many rows as unknowns both have the same symbols. -/
theorem PInv.solved {k : Nat} {S : Nat → Option (Nat → Nat)} {V Vr : Nat → Nat → Nat} {T : Nat → Option (Nat → Nat)} {n : Nat} (h : PInv k k S V) (st : Stg k k n V Vr T) (i : Nat) (hi : i < k) (r : Nat → Nat) (hr : S i = some r) : Vr i = r := by
  have hn : n = k := by
    rw [← h.rk]
    exact st.rank h.red h.to fun t ht => ⟨V t, h.back t ht, fun _ _ => rfl⟩
  subst hn
  exact st.full h.red h.back i hi r hr
end Go.Proofs.Ytgbeklifcchmlaa

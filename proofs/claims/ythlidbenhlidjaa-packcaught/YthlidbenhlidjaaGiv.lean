/-
  Symbols of rows of full rank are sums that only one text has. Plain mathematics.
-/
import Derived.Test.YthlidbenhlidjaaGau
import Derived.Test.YthlidbenhlidjaaFma
namespace Go.Proofs.Ythlidbenhlidjaa

/-- Rows of full rank have it each time. -/
theorem Stg.again {m k n : Nat} {V Vr Vr' : Nat → Nat → Nat} {T T' : Nat → Option (Nat → Nat)} (h : Stg m k m V Vr T) (h' : Stg m k n V Vr' T') : n = m := by
  have e : n = rankTo T k := by
    refine h'.rank h.red (fun g hg => ?_) (fun t ht => ⟨V t, ?_, fun _ _ => rfl⟩)
    · obtain ⟨i, hi, hr⟩ := hg
      rw [h.is i g hi hr]
      exact h.to _ (by have := rank_lt hi hr; have := h.nr; omega)
    · refine (h.back t ht).mono fun g hg => ?_
      obtain ⟨t', ht', rfl⟩ := hg
      obtain ⟨i, r, hi, hr, e⟩ := rank_hit (T := T) k t' (by rw [← h.nr]; exact ht')
      have e2 := h.is i r hi hr
      rw [e] at e2
      rw [← e2]
      exact Sp.gen ⟨i, hi, hr⟩ (h.red.byt i r hi hr)
  rw [e, ← h.nr]

/-- The row that says symbol i alone, and what it is. -/
def tru (Z : Nat → Nat → Nat) (k i : Nat) : Nat → Nat := cat (fun j => if j = i then 1 else 0) (Z i) k
def truS (Z : Nat → Nat → Nat) (k i : Nat) : Option (Nat → Nat) := if i < k then some (tru Z k i) else none
theorem truS_some {Z : Nat → Nat → Nat} {k i : Nat} {r : Nat → Nat} (h : truS Z k i = some r) : r = tru Z k i := by
  unfold truS at h
  split at h
  · exact (Option.some.inj h).symm
  · cases h
theorem tru_low (Z : Nat → Nat → Nat) {k i j : Nat} (hj : j < k) : tru Z k i j = if j = i then 1 else 0 := by unfold tru cat; rw [if_pos hj]
theorem tru_high (Z : Nat → Nat → Nat) {k i j : Nat} (hj : ¬ j < k) : tru Z k i j = Z i (j - k) := by unfold tru cat; rw [if_neg hj]
theorem tru_byt {Z : Nat → Nat → Nat} (hz : ∀ i j, Z i j < 256) (k i : Nat) : Byt (tru Z k i) := fun j => by
  by_cases hj : j < k
  · rw [tru_low Z hj]; split <;> decide
  · rw [tru_high Z hj]; exact hz _ _
theorem tru_red {Z : Nat → Nat → Nat} (hz : ∀ i j, Z i j < 256) (k : Nat) : Red (truS Z k) k := by
  refine ⟨fun i r hi hr => ?_, fun i r hi hr => ?_, fun i r hi hr i' r' hi' hne _ => ?_, fun i r hi hr j hj => ?_⟩
  all_goals rw [truS_some hr]
  · exact tru_byt hz k i
  · rw [tru_low Z hi, if_pos rfl]
  · rw [tru_low Z hi', if_neg hne]
  · rw [tru_low Z (by omega), if_neg (by omega)]

theorem mix_none (R : Nat → Nat) (W : Nat → Nat → Nat) (t j : Nat) (h : ∀ i, i < t → W i j = 0) : mixTo R W t j = 0 := by
  induction t with
  | zero => rfl
  | succ t ih => rw [mixTo_succ, ih (fun i hi => h i (by omega)), h t (by omega), Gf.mul_zero]; rfl
theorem mix_delta (R : Nat → Nat) (W : Nat → Nat → Nat) (t j : Nat) (hj : j < t) (hR : R j < 256) (h : ∀ i, i < t → W i j = if j = i then 1 else 0) : mixTo R W t j = R j := by
  induction t with
  | zero => omega
  | succ t ih =>
    rw [mixTo_succ, h t (by omega)]
    by_cases e : j = t
    · subst e
      rw [mix_none R W _ _ (fun i hi => by rw [h i (by omega), if_neg (by omega)]), if_pos rfl, Gf.mul_one _ hR, Nat.zero_xor]
    · rw [ih (by omega) (fun i hi => h i (by omega)), if_neg e, Gf.mul_zero, Nat.xor_zero]
theorem mix_shift (R : Nat → Nat) (W Z : Nat → Nat → Nat) (t j l : Nat) (h : ∀ i, i < t → W i j = Z i l) : mixTo R W t j = mixTo R Z t l := by
  induction t with
  | zero => rfl
  | succ t ih => rw [mixTo_succ, mixTo_succ, ih (fun i hi => h i (by omega)), h t (by omega)]
/-- A row and the symbol that it says, as a sum. -/
theorem mix_cat (R : Nat → Nat) (Z : Nat → Nat → Nat) (k : Nat) (hR : ∀ i, R i < 256) : cat R (mixTo R Z k) k = mixTo R (tru Z k) k := by
  funext j
  unfold cat
  by_cases hj : j < k
  · rw [if_pos hj, mix_delta R (tru Z k) k j hj (hR j) (fun i _ => tru_low Z hj)]
  · rw [if_neg hj, mix_shift R (tru Z k) Z k j (j - k) (fun i _ => tru_high Z hj)]
theorem mix_sp (R : Nat → Nat) (Z : Nat → Nat → Nat) (k : Nat) (hR : ∀ i, R i < 256) : ∀ t, t ≤ k → Sp (Rw (truS Z k) k) (mixTo R (tru Z k) t) := by
  intro t
  induction t with
  | zero => intro _; exact Sp.zero
  | succ t ih => intro h; exact Sp.step (ih (by omega)) ⟨t, by omega, if_pos (by omega)⟩ (hR t)
theorem row_sp (R : Nat → Nat) (Z : Nat → Nat → Nat) (k : Nat) (hR : ∀ i, R i < 256) : Sp (Rw (truS Z k) k) (cat R (mixTo R Z k) k) := by
  rw [mix_cat R Z k hR]
  exact mix_sp R Z k hR k (Nat.le_refl _)
theorem gives {k : Nat} {Z V Vr : Nat → Nat → Nat} {T : Nat → Option (Nat → Nat)} (hz : ∀ i j, Z i j < 256) (st : Stg k k k V Vr T) (hV : ∀ t, t < k → Sp (Rw (truS Z k) k) (V t)) (i : Nat) (hi : i < k) (t : Nat) : Vr i (k + t) = Z i t := by
  rw [st.full (tru_red hz k) hV i hi (tru Z k i) (if_pos hi), tru_high Z (by omega), Nat.add_sub_cancel_left]

/-- What the rows that were taken are: each said more, all are sums that the text has. -/
structure Took (k d : Nat) (Z V : Nat → Nat → Nat) : Prop where
  full : d = 0 ∨ ∃ Vr T, Stg d k d V Vr T
  sum : ∀ t, t < d → Sp (Rw (truS Z k) k) (V t)
theorem Took.none (k : Nat) (Z V : Nat → Nat → Nat) : Took k 0 Z V := ⟨.inl rfl, fun t ht => absurd ht (Nat.not_lt_zero t)⟩
theorem Took.le {k d : Nat} {Z V : Nat → Nat → Nat} (h : Took k d Z V) : d ≤ k := by
  rcases h.full with rfl | ⟨Vr, T, st⟩
  · exact Nat.zero_le _
  · have := rankTo_le T k
    have := st.nr
    omega
theorem Took.byt {k d : Nat} {Z V : Nat → Nat → Nat} (h : Took k d Z V) : ∀ t, t < d → Byt (V t) := fun t ht => (h.sum t ht).byt
theorem Took.more {k d n : Nat} {Z V Vr : Nat → Nat → Nat} {T : Nat → Option (Nat → Nat)} {v : Nat → Nat} (h : Took k d Z V) (hv : Sp (Rw (truS Z k) k) v) (st : Stg (d + 1) k n (Proofs.Ythlidbenhlidjaa.more V d v) Vr T) (hn : d < n) : Took k (d + 1) Z (Proofs.Ythlidbenhlidjaa.more V d v) := by
  have e : n = d + 1 := by have := st.le; omega
  subst e
  refine ⟨.inr ⟨Vr, T, st⟩, fun t ht => ?_⟩
  by_cases et : t = d
  · rw [et, more_new]; exact hv
  · rw [← more_old V d v t (by omega)]; exact h.sum t (by omega)
end Go.Proofs.Ythlidbenhlidjaa

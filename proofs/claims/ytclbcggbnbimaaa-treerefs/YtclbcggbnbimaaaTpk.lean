/-
  Who is above whom among known ones that hang on earlier ones alone.
-/
import Derived.Test.YtclbcggbnbimaaaTbg
namespace Go.Proofs.Ytclbcggbnbimaaa
open Go.RowKit Go.Deep

/-- A Boolean that tells P. -/
def Tr (b : Bool) (P : Prop) : Prop := b = true ↔ P
theorem Tr.congr {b : Bool} {P Q : Prop} (h : Tr b P) (e : P ↔ Q) : Tr b Q := Iff.trans h e
theorem Tr.yes {P : Prop} (h : P) : Tr true P := iff_of_true rfl h
theorem Tr.no {P : Prop} (h : ¬ P) : Tr false P := iff_of_false Bool.false_ne_true h
theorem Tr.dec {x y : Int} {P : Prop} (h : x = y ↔ P) : Tr (x == y) P := by
  unfold Tr
  rw [← h]
  simp
/-- Known ones in memory. -/
structure Knw (w : World) (r : Option Addr) (m : Nat) (K : Nat → Fr) (R : Nat → Nat → Int) (W : World) : Prop where
  cr : Crowd W r m K R
  bel : Below w.heap.size w W
theorem Knw.grew {w W W' : World} {r : Option Addr} {m : Nat} {K : Nat → Fr} {R : Nat → Nat → Int} (h : Knw w r m K R W) (hb : Below W.heap.size W W') : Knw w r m K R W' :=
  ⟨h.cr.grew hb, h.bel.trans (hb.mono h.bel.size)⟩
theorem edge_falls {K : Nat → Fr} {R : Nat → Nat → Int} {m : Nat} (hr : Rise K m) (hh : Hung K R m) (i p : Nat) (h : Edge K R m i p) : p < i := by
  obtain ⟨h1, h2, j, h3, h4⟩ := h
  obtain ⟨q, h5, h6⟩ := hh i h1 j h3
  have : p = q := hr.eq h2 (by omega) (by omega)
  omega
theorem behind_up {K : Nat → Fr} {R : Nat → Nat → Int} {m : Nat} (hr : Rise K m) (hh : Hung K R m) {t : Nat} (ht : t < m) (q : Nat) : Behind (Edge K R m) K m (K t).id q ↔ Up (Edge K R m) t q := by
  constructor
  · rintro ⟨s, h1, h2, -⟩
    rw [plc_at hr ht] at h1
    cases h1
    exact h2
  · exact fun h => ⟨t, plc_at hr ht, h, Nat.ne_of_lt (h.falls (edge_falls hr hh))⟩
/-- Place i's Ref j is place k, or one above which k is. -/
def Hit (K : Nat → Fr) (R : Nat → Nat → Int) (m t k j : Nat) : Prop := ∃ p, p < m ∧ R t j = ((K p).id : Int) ∧ (p = k ∨ Up (Edge K R m) p k)
theorem hit_up {K : Nat → Fr} {R : Nat → Nat → Int} {m t k : Nat} (ht : t < m) : (∃ j, j < (K t).n ∧ Hit K R m t k j) ↔ Up (Edge K R m) t k := by
  constructor
  · rintro ⟨j, h1, p, h2, h3, h4⟩
    have e : Edge K R m t p := ⟨ht, h2, j, h1, h3⟩
    rcases h4 with rfl | h4
    · exact .one e
    · exact .more e h4
  · intro h
    obtain ⟨p, h1, h2⟩ := h.first
    obtain ⟨-, h3, j, h4, h5⟩ := h1
    exact ⟨j, h4, p, h3, h5, h2⟩
theorem hit_at {K : Nat → Fr} {R : Nat → Nat → Int} {m t k j p : Nat} (hr : Rise K m) (hp : p < m) (e : R t j = ((K p).id : Int)) : Hit K R m t k j ↔ (p = k ∨ Up (Edge K R m) p k) := by
  constructor
  · rintro ⟨q, h1, h2, h3⟩
    have : q = p := hr.eq h1 hp (by omega)
    rw [this] at h3
    exact h3
  · exact fun h => ⟨p, hp, e, h⟩
theorem picked_next {sel : Nat → Bool} {k : Nat} (hk : sel k = true) : ∀ d, (picked sel k).length < (picked sel (k + 1 + d)).length ∧ (picked sel (k + 1 + d)).getD (picked sel k).length 0 = k
  | 0 => by
    rw [Nat.add_zero, picked_yes hk]
    simp [List.getD]
  | d + 1 => by
    obtain ⟨h1, h2⟩ := picked_next hk d
    rw [show k + 1 + (d + 1) = (k + 1 + d) + 1 from rfl]
    cases e : sel (k + 1 + d) with
    | false => rw [picked_no e]; exact ⟨h1, h2⟩
    | true =>
      rw [picked_yes e]
      refine ⟨by rw [List.length_append]; omega, ?_⟩
      have e2 : (picked sel (k + 1 + d) ++ [k + 1 + d]).getD (picked sel k).length 0 = (picked sel (k + 1 + d)).getD (picked sel k).length 0 := by
        simp only [List.getD]
        rw [List.getElem?_append_left h1]
      exact e2.trans h2
theorem picked_stop {sel : Nat → Bool} {t : Nat} : ∀ d, (∀ q, t ≤ q → q < t + d → sel q = false) → picked sel (t + d) = picked sel t
  | 0, _ => rfl
  | d + 1, h => by
    rw [← picked_stop d (fun q h1 h2 => h q h1 (by omega))]
    exact picked_no (h (t + d) (by omega) (by omega))
end Go.Proofs.Ytclbcggbnbimaaa

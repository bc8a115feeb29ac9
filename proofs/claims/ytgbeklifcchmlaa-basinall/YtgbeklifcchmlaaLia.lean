/-
  Rows over the field of 256: what elimination leaves. Plain mathematics.
-/
import Derived.Test.YtgbeklifcchmlaaLin
import Derived.Test.YtgbeklifcchmlaaAdd
namespace Go.Proofs.Ytgbeklifcchmlaa

/-- What is left is 0 where the rows so far lead, and differs from the row by a sum of multiples of theirs. -/
theorem elim_spec {S : Nat → Option (Nat → Nat)} {k : Nat} (hR : Red S k) {v : Nat → Nat} (hv : Byt v) : ∀ n, n ≤ k → (∀ i r, i < n → S i = some r → elimTo S v n i = 0) ∧ ∃ u, Sp (Rw S k) u ∧ elimTo S v n = addUp v u 1 := by
  intro n
  induction n with
  | zero => intro _; exact ⟨fun i r h => by omega, fun _ => 0, Sp.zero, (addUp_zero v 1).symm⟩
  | succ n ih =>
    intro hn
    obtain ⟨h1, u, hu, he⟩ := ih (by omega)
    cases hS : S n with
    | none =>
      have e : elimTo S v (n + 1) = elimTo S v n := by simp only [elimTo, hS]
      rw [e]
      refine ⟨fun i r hi hSi => ?_, u, hu, he⟩
      by_cases g : i = n
      · rw [g, hS] at hSi; cases hSi
      · exact h1 i r (by omega) hSi
    | some t =>
      have e : elimTo S v (n + 1) = addUp (elimTo S v n) t (elimTo S v n n) := by simp only [elimTo, hS]
      have hb : Byt (elimTo S v n) := by rw [he]; exact addUp_byt hv
      rw [e]
      refine ⟨fun i r hi hSi => ?_, addUp u t (elimTo S v n n), hu.step ⟨n, by omega, hS⟩ (hb n), ?_⟩
      · by_cases g : i = n
        · subst g
          unfold addUp
          rw [hR.one i t (by omega) hS, Gf.mul_one _ (hb i), Nat.xor_self]
        · unfold addUp
          rw [h1 i r (by omega) hSi, hR.off n t (by omega) hS i r (by omega) g hSi, Gf.mul_zero]
          decide
      · rw [addUp_add v u t 1 _ (by decide) hu.byt, ← he, mul_one' _ (hb n)]

/-- One step of Add, told by sums of multiples. -/
theorem add_spec {S : Nat → Option (Nat → Nat)} {k : Nat} (hR : Red S k) {v : Nat → Nat} (hv : Byt v) :
    (addOf S k v = (false, S) ∧ ∃ u, Sp (Rw S k) u ∧ ∀ j, j < k → v j = u j) ∨
    (∃ S', addOf S k v = (true, S') ∧ Red S' k ∧ (∀ g, Rw S' k g → Sp (fun g => Rw S k g ∨ g = v) g) ∧ (∀ g, Rw S k g → Sp (Rw S' k) g) ∧ Sp (Rw S' k) v ∧ rankTo S' k = rankTo S k + 1 ∧ ∀ i, (S i).isSome = true → (S' i).isSome = true) := by
  obtain ⟨hz, u, hu, he⟩ := elim_spec hR hv k (Nat.le_refl _)
  have hb : Byt (elimTo S v k) := by rw [he]; exact addUp_byt hv
  have hvu : v = addUp (elimTo S v k) u 1 := by rw [he, addUp_back]
  unfold addOf
  generalize elimTo S v k = r at *
  rcases leadOf_spec r k 0 with ⟨hl, h0⟩ | ⟨p, hl, -, hp, hrp, hlow⟩
  · refine .inl ⟨?_, u, hu, fun j hj => ?_⟩
    · simp only [hl]; rfl
    · rw [hvu]
      unfold addUp
      rw [h0 j (Nat.zero_le _) (by omega), mul_one' _ (hu.byt j), Nat.zero_xor]
  · rw [Nat.zero_add] at hp
    refine .inr ⟨putS S (unitRow r p) p, ?_, ?_⟩
    · simp only [hl, Int.toNat_natCast]
      rw [if_neg (by omega)]
    have hSp : S p = none := by
      cases h : S p with
      | none => rfl
      | some t => exact absurd (hz p t hp h) hrp
    have qb : Byt (unitRow r p) := addUp_byt (fun _ => Nat.zero_lt_succ _)
    have q1 : unitRow r p p = 1 := by
      unfold unitRow addUp
      rw [Nat.zero_xor, Gf.mul_comm, Gf.mul_inv _ (hb p) hrp]
    have q0 : ∀ j, r j = 0 → unitRow r p j = 0 := by
      intro j h
      unfold unitRow addUp
      rw [h, Gf.mul_zero, Nat.xor_zero]
    have rq : r = addUp (fun _ => 0) (unitRow r p) (r p) := by
      funext j
      unfold unitRow addUp
      rw [Nat.zero_xor, Nat.zero_xor, Gf.mul_assoc, Gf.mul_inv _ (hb p) hrp, mul_one' _ (hb j)]
    have hrS : Sp (fun g => Rw S k g ∨ g = v) r := by
      have h1 : Sp (fun g => Rw S k g ∨ g = v) v := Sp.gen (.inr rfl) hv
      have h2 : Sp (fun g => Rw S k g ∨ g = v) u := hu.mono fun g hg => Sp.gen (.inl hg) (by obtain ⟨i, hi, h⟩ := hg; exact hR.byt i g hi h)
      rw [he]
      exact h1.add h2 (by decide)
    have hqS : Sp (fun g => Rw S k g ∨ g = v) (unitRow r p) := Sp.zero.add hrS (Gf.inv_lt _)
    generalize unitRow r p = q at *
    have hT : ∀ i t, S i = some t → putS S q p i = some (addUp t q (t p)) := by
      intro i t h
      unfold putS
      rw [if_neg (fun e => by rw [e, hSp] at h; cases h), h]
      rfl
    have hTp : putS S q p p = some q := by unfold putS; rw [if_pos rfl]
    have hinv : ∀ i t, putS S q p i = some t → (i = p ∧ t = q) ∨ (i ≠ p ∧ ∃ t0, S i = some t0 ∧ t = addUp t0 q (t0 p)) := by
      intro i t h
      unfold putS at h
      by_cases e : i = p
      · rw [if_pos e] at h; exact .inl ⟨e, (Option.some.inj h).symm⟩
      · rw [if_neg e] at h
        cases hS : S i with
        | none => rw [hS] at h; cases h
        | some t0 => rw [hS] at h; exact .inr ⟨e, t0, rfl, (Option.some.inj h).symm⟩
    have qz : ∀ i t, i < k → S i = some t → q i = 0 := fun i t hi h => q0 i (hz i t hi h)
    refine ⟨⟨?_, ?_, ?_, ?_⟩, ?_, ?_, ?_, ?_, ?_⟩
    · intro i t hi h
      rcases hinv i t h with ⟨-, rfl⟩ | ⟨-, t0, h0, rfl⟩
      · exact qb
      · exact addUp_byt (hR.byt i t0 hi h0)
    · intro i t hi h
      rcases hinv i t h with ⟨rfl, rfl⟩ | ⟨-, t0, h0, rfl⟩
      · exact q1
      · unfold addUp
        rw [hR.one i t0 hi h0, qz i t0 hi h0, Gf.mul_zero]
        decide
    · intro i t hi h i' t' hi' hne h'
      rcases hinv i t h with ⟨rfl, rfl⟩ | ⟨hip, t0, h0, rfl⟩
      · rcases hinv i' t' h' with ⟨rfl, -⟩ | ⟨-, t1, h1, -⟩
        · exact absurd rfl hne
        · exact qz i' t1 hi' h1
      · unfold addUp
        rcases hinv i' t' h' with ⟨rfl, -⟩ | ⟨-, t1, h1, -⟩
        · rw [q1, Gf.mul_one _ (hR.byt i t0 hi h0 i'), Nat.xor_self]
        · rw [hR.off i t0 hi h0 i' t1 hi' hne h1, qz i' t1 hi' h1, Gf.mul_zero]
          decide
    · intro i t hi h j hj
      rcases hinv i t h with ⟨rfl, rfl⟩ | ⟨hip, t0, h0, rfl⟩
      · exact q0 j (hlow j (Nat.zero_le _) hj)
      · unfold addUp
        rw [hR.low i t0 hi h0 j hj]
        by_cases hpi : p < i
        · rw [hR.low i t0 hi h0 p hpi, Gf.zero_mul]; decide
        · rw [q0 j (hlow j (Nat.zero_le _) (by omega)), Gf.mul_zero]; decide
    · rintro g ⟨i, hi, h⟩
      rcases hinv i g h with ⟨-, rfl⟩ | ⟨-, t0, h0, rfl⟩
      · exact hqS
      · exact (Sp.gen (.inl ⟨i, hi, h0⟩) (hR.byt i t0 hi h0)).add hqS (hR.byt i t0 hi h0 p)
    · rintro g ⟨i, hi, h⟩
      have h1 : Sp (Rw (putS S q p) k) (addUp g q (g p)) := Sp.gen ⟨i, hi, hT i g h⟩ (addUp_byt (hR.byt i g hi h))
      have h2 := h1.step (c := g p) ⟨p, hp, hTp⟩ (hR.byt i g hi h p)
      rwa [addUp_back] at h2
    · have hq : Sp (Rw (putS S q p) k) q := Sp.gen ⟨p, hp, hTp⟩ qb
      have hr' : Sp (Rw (putS S q p) k) r := by rw [rq]; exact Sp.zero.add hq (hb p)
      have hu' : Sp (Rw (putS S q p) k) u := hu.mono fun g ⟨i, hi, h⟩ => by
        have h1 : Sp (Rw (putS S q p) k) (addUp g q (g p)) := Sp.gen ⟨i, hi, hT i g h⟩ (addUp_byt (hR.byt i g hi h))
        have h2 := h1.step (c := g p) ⟨p, hp, hTp⟩ (hR.byt i g hi h p)
        rwa [addUp_back] at h2
      rw [hvu]
      exact hr'.add hu' (by decide)
    · have hle : ∀ n, rankTo (putS S q p) n = rankTo S n + (if p < n then 1 else 0) := by
        intro n
        induction n with
        | zero => rfl
        | succ n ih =>
          unfold rankTo
          rw [ih]
          by_cases e : n = p
          · subst e
            rw [hTp, hSp]
            simp
          · have : (putS S q p n).isSome = (S n).isSome := by unfold putS; rw [if_neg e]; cases S n <;> rfl
            rw [this]
            by_cases g : p < n
            · have g' : p < n + 1 := by omega
              simp only [g, g', if_true]
              omega
            · have g' : ¬ p < n + 1 := by omega
              simp only [g, g', if_false]
              omega
      rw [hle k, if_pos hp]
    · intro i h
      obtain ⟨t, ht⟩ := Option.isSome_iff_exists.1 h
      rw [hT i t ht]
      rfl

/-- A row that is a sum of multiples of the rows that are there says no more. -/
theorem add_again {S : Nat → Option (Nat → Nat)} {k : Nat} (hR : Red S k) {v : Nat → Nat} (h : Sp (Rw S k) v) : addOf S k v = (false, S) := by
  obtain ⟨hz, u, hu, he⟩ := elim_spec hR h.byt k (Nat.le_refl _)
  have hr : Sp (Rw S k) (elimTo S v k) := by rw [he]; exact h.add hu (by decide)
  have h0 := hr.zero_of hR hz
  unfold addOf
  rcases leadOf_spec (elimTo S v k) k 0 with ⟨hl, -⟩ | ⟨p, -, -, -, hrp, -⟩
  · simp only [hl]; rfl
  · exact absurd (h0 p) hrp
end Go.Proofs.Ytgbeklifcchmlaa

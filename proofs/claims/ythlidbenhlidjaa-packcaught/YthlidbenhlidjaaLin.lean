/-
  Rows over the field of 256: what sums of multiples are, rows in steps. Plain mathematics.
-/
import Derived.Test.YthlidbenhlidjaaStr
import Derived.Test.YthlidbenhlidjaaRan
namespace Go.Proofs.Ythlidbenhlidjaa

/-- Each place holds a byte. -/
def Byt (v : Nat → Nat) : Prop := ∀ j, v j < 256
/-- Sums of multiples of the rows in G. -/
inductive Sp (G : (Nat → Nat) → Prop) : (Nat → Nat) → Prop
  | zero : Sp G (fun _ => 0)
  | step {v g : Nat → Nat} {c : Nat} : Sp G v → G g → c < 256 → Sp G (addUp v g c)

theorem mul_one' (a : Nat) (h : a < 256) : Gf.mul 1 a = a := by rw [Gf.mul_comm]; exact Gf.mul_one a h
theorem addUp_byt {v g : Nat → Nat} {c : Nat} (hv : Byt v) : Byt (addUp v g c) := fun j => Gf.xor_lt _ _ (hv j) (Gf.mul_lt _ _)
theorem Sp.byt {G : (Nat → Nat) → Prop} {v : Nat → Nat} (h : Sp G v) : Byt v := by
  induction h with
  | zero => exact fun _ => Nat.zero_lt_succ _
  | step _ _ _ ih => exact addUp_byt ih
theorem addUp_add (v u g : Nat → Nat) (c d : Nat) (hc : c < 256) (hu : Byt u) : addUp v (addUp u g d) c = addUp (addUp v u c) g (Gf.mul c d) := by
  funext j
  unfold addUp
  rw [Gf.mul_xor c _ _ hc (hu j) (Gf.mul_lt _ _), Gf.mul_assoc, Nat.xor_assoc]
theorem addUp_zero (v : Nat → Nat) (c : Nat) : addUp v (fun _ => 0) c = v := by
  funext j; unfold addUp; rw [Gf.mul_zero, Nat.xor_zero]
theorem Sp.add {G : (Nat → Nat) → Prop} {v u : Nat → Nat} {c : Nat} (hv : Sp G v) (hu : Sp G u) (hc : c < 256) : Sp G (addUp v u c) := by
  induction hu with
  | zero => rw [addUp_zero]; exact hv
  | step h1 h2 h3 ih => rw [addUp_add _ _ _ _ _ hc h1.byt]; exact Sp.step ih h2 (Gf.mul_lt _ _)
theorem addUp_one (g : Nat → Nat) (hg : Byt g) : addUp (fun _ => 0) g 1 = g := by
  funext j; unfold addUp; rw [mul_one' _ (hg j), Nat.zero_xor]
theorem Sp.gen {G : (Nat → Nat) → Prop} {g : Nat → Nat} (hg : G g) (hb : Byt g) : Sp G g := by
  have := Sp.step (c := 1) (Sp.zero (G := G)) hg (by decide)
  rwa [addUp_one g hb] at this
theorem Sp.mono {G H : (Nat → Nat) → Prop} {v : Nat → Nat} (h : Sp G v) (hG : ∀ g, G g → Sp H g) : Sp H v := by
  induction h with
  | zero => exact Sp.zero
  | step _ h2 h3 ih => exact ih.add (hG _ h2) h3
/-- What holds of 0 and goes over sums holds of all. -/
theorem Sp.all {G : (Nat → Nat) → Prop} {v : Nat → Nat} (h : Sp G v) (p : (Nat → Nat) → Prop) (h0 : p (fun _ => 0)) (hs : ∀ v g c, c < 256 → Byt v → p v → G g → p (addUp v g c)) : p v := by
  induction h with
  | zero => exact h0
  | step h1 h2 h3 ih => exact hs _ _ _ h3 h1.byt ih h2
theorem addUp_back (v u : Nat → Nat) (c : Nat) : addUp (addUp v u c) u c = v := by
  funext j; unfold addUp; rw [Nat.xor_assoc, Nat.xor_self, Nat.xor_zero]

/-- The rows that are there. -/
def Rw (S : Nat → Option (Nat → Nat)) (k : Nat) (g : Nat → Nat) : Prop := ∃ i, i < k ∧ S i = some g
/-- Rows in steps, each with 1 at its place, 0 ahead of it and where another leads. -/
structure Red (S : Nat → Option (Nat → Nat)) (k : Nat) : Prop where
  byt : ∀ i r, i < k → S i = some r → Byt r
  one : ∀ i r, i < k → S i = some r → r i = 1
  off : ∀ i r, i < k → S i = some r → ∀ i' r', i' < k → i' ≠ i → S i' = some r' → r i' = 0
  low : ∀ i r, i < k → S i = some r → ∀ j, j < i → r j = 0
theorem Red.empty (k : Nat) : Red (fun _ => none) k := ⟨fun _ _ _ h => (nomatch h), fun _ _ _ h => (nomatch h), fun _ _ _ h => (nomatch h), fun _ _ _ h => (nomatch h)⟩

/-- The sum of the rows, each as often as v has it at its place. -/
def comb (S : Nat → Option (Nat → Nat)) (v : Nat → Nat) (j : Nat) : Nat → Nat
  | 0 => 0
  | i + 1 => comb S v j i ^^^ (match S i with | none => 0 | some r => Gf.mul (v i) (r j))
theorem comb_none (S : Nat → Option (Nat → Nat)) (v : Nat → Nat) (j n : Nat) (h : ∀ i r, i < n → S i = some r → Gf.mul (v i) (r j) = 0) : comb S v j n = 0 := by
  induction n with
  | zero => rfl
  | succ n ih =>
    unfold comb
    rw [ih fun i r hi => h i r (by omega)]
    cases hS : S n with
    | none => show 0 ^^^ 0 = 0; decide
    | some r => show 0 ^^^ Gf.mul (v n) (r j) = 0; rw [h n r (by omega) hS]; rfl
theorem comb_add (S : Nat → Option (Nat → Nat)) (v g : Nat → Nat) (c j n : Nat) (hv : Byt v) (hb : ∀ i r, i < n → S i = some r → Byt r) :
    comb S (addUp v g c) j n = comb S v j n ^^^ comb S (fun i => Gf.mul c (g i)) j n := by
  induction n with
  | zero => show 0 = 0 ^^^ 0; decide
  | succ n ih =>
    unfold comb
    rw [ih fun i r hi => hb i r (by omega)]
    cases hS : S n with
    | none => show _ ^^^ 0 = (_ ^^^ 0) ^^^ (_ ^^^ 0); rw [Nat.xor_zero, Nat.xor_zero, Nat.xor_zero]
    | some r =>
      show _ ^^^ Gf.mul (addUp v g c n) (r j) = (_ ^^^ Gf.mul (v n) (r j)) ^^^ (_ ^^^ Gf.mul (Gf.mul c (g n)) (r j))
      unfold addUp
      rw [Gf.xor_mul _ _ _ (hv n) (Gf.mul_lt _ _) (hb n r (by omega) hS j), Gf.xor4]
/-- Only the row at i counts. -/
theorem comb_single (S : Nat → Option (Nat → Nat)) (v : Nat → Nat) (j i n : Nat) (r : Nat → Nat) (hi : i < n) (hS : S i = some r) (h : ∀ i' r', i' < n → i' ≠ i → S i' = some r' → v i' = 0) : comb S v j n = Gf.mul (v i) (r j) := by
  induction n with
  | zero => omega
  | succ n ih =>
    unfold comb
    by_cases e : i = n
    · subst e
      rw [comb_none S v j i fun i' r' h1 h2 => by rw [h i' r' (by omega) (by omega) h2, Gf.zero_mul], hS]
      exact Nat.zero_xor _
    · rw [ih (by omega) fun i' r' h1 => h i' r' (by omega)]
      cases hSn : S n with
      | none => exact Nat.xor_zero _
      | some r' => show _ ^^^ Gf.mul (v n) (r' j) = _; rw [h n r' (by omega) (Ne.symm e) hSn, Gf.zero_mul, Nat.xor_zero]
/-- A sum of multiples is told by what it has where rows lead. -/
theorem Sp.comb {S : Nat → Option (Nat → Nat)} {k : Nat} (hR : Red S k) {v : Nat → Nat} (h : Sp (Rw S k) v) : ∀ j, v j = Proofs.Ythlidbenhlidjaa.comb S v j k := by
  refine h.all (fun v => ∀ j, v j = Proofs.Ythlidbenhlidjaa.comb S v j k) (fun j => ?_) (fun v g c hc hv ih hg j => ?_)
  · rw [comb_none S _ j k fun i r _ _ => Gf.zero_mul _]
  · obtain ⟨i, hi, hS⟩ := hg
    rw [comb_add S v g c j k hv hR.byt, ← ih j]
    rw [comb_single S _ j i k g hi hS fun i' r' h1 h2 h3 => by rw [hR.off i g hi hS i' r' h1 h2 h3, Gf.mul_zero]]
    rw [hR.one i g hi hS, Gf.mul_one c hc]
    rfl
/-- One that is 0 where rows lead is 0. -/
theorem Sp.zero_of {S : Nat → Option (Nat → Nat)} {k : Nat} (hR : Red S k) {v : Nat → Nat} (h : Sp (Rw S k) v) (hz : ∀ i r, i < k → S i = some r → v i = 0) : ∀ j, v j = 0 := by
  intro j
  rw [h.comb hR j]
  exact comb_none S v j k fun i r hi hS => by rw [hz i r hi hS, Gf.zero_mul]
/-- One that leads at a place below k leads where a row does. -/
theorem Sp.leads {S : Nat → Option (Nat → Nat)} {k : Nat} (hR : Red S k) {v : Nat → Nat} (h : Sp (Rw S k) v) (i : Nat) (hv : v i ≠ 0) (hl : ∀ j, j < i → v j = 0) : (S i).isSome = true := by
  cases hS : S i with
  | some r => rfl
  | none =>
    exfalso
    apply hv
    rw [h.comb hR i]
    refine comb_none S v i k fun i' r hi' hS' => ?_
    by_cases e : i' < i
    · rw [hl i' e, Gf.zero_mul]
    · have hne : i' ≠ i := fun e => by rw [e, hS] at hS'; cases hS'
      rw [hR.low i' r hi' hS' i (by omega), Gf.mul_zero]
/-- Rows in steps that come to the same sums lead at the same places. -/
theorem Red.same {S T : Nat → Option (Nat → Nat)} {k : Nat} (hS : Red S k) (hT : Red T k) (h : ∀ g, Rw S k g → Sp (Rw T k) g) (h' : ∀ g, Rw T k g → Sp (Rw S k) g) (i : Nat) (hi : i < k) : (S i).isSome = (T i).isSome := by
  have go : ∀ {S T : Nat → Option (Nat → Nat)}, Red S k → Red T k → (∀ g, Rw S k g → Sp (Rw T k) g) → (S i).isSome = true → (T i).isSome = true := by
    intro S T hS hT h hi'
    obtain ⟨r, hr⟩ := Option.isSome_iff_exists.1 hi'
    exact (h r ⟨i, hi, hr⟩).leads hT i (by rw [hS.one i r hi hr]; decide) (hS.low i r hi hr)
  cases h1 : (S i).isSome with
  | true => exact (go hS hT h h1).symm
  | false =>
    cases h2 : (T i).isSome with
    | false => rfl
    | true => exact absurd (go hT hS h' h2) (by rw [h1]; decide)
theorem rank_same {S T : Nat → Option (Nat → Nat)} (k : Nat) (h : ∀ i, i < k → (S i).isSome = (T i).isSome) : rankTo S k = rankTo T k := by
  induction k with
  | zero => rfl
  | succ k ih => unfold rankTo; rw [ih fun i hi => h i (by omega), h k (by omega)]
end Go.Proofs.Ythlidbenhlidjaa

/-
  Rows that are sums which a text has: what they come to, once there are as many as unknowns; that they say the same in whatever order they came. Plain mathematics.
-/
import Derived.Test.YtgbeklifcchmlaaPin
import Derived.Test.YtgbeklifcchmlaaGiv
namespace Go.Proofs.Ytgbeklifcchmlaa

/-- A sum that a text has is told by its first k places. -/
theorem comb_congr (S : Nat → Option (Nat → Nat)) (u v : Nat → Nat) (j n : Nat) (h : ∀ i, i < n → u i = v i) : comb S u j n = comb S v j n := by
  induction n with
  | zero => rfl
  | succ n ih => unfold comb; rw [ih fun i hi => h i (by omega), h n (by omega)]
theorem Sp.told {k : Nat} {S : Nat → Option (Nat → Nat)} (hR : Red S k) {u v : Nat → Nat} (hu : Sp (Rw S k) u) (hv : Sp (Rw S k) v) (h : ∀ j, j < k → u j = v j) : u = v := by
  funext j
  rw [hu.comb hR j, hv.comb hR j]
  exact comb_congr S u v j k h
theorem Sp.zero_at {G : (Nat → Nat) → Prop} {v : Nat → Nat} (h : Sp G v) (i : Nat) (hG : ∀ g, G g → g i = 0) : v i = 0 := by
  refine h.all (fun v => v i = 0) rfl (fun v g c _ _ ih hg => ?_)
  unfold addUp
  rw [ih, hG g hg, Gf.mul_zero]
  rfl

/-- With a row at each place, all of them sums that the text has, each is the text's own. -/
theorem full_tru {k : Nat} {Z : Nat → Nat → Nat} {S : Nat → Option (Nat → Nat)} (hz : ∀ i j, Z i j < 256) (hR : Red S k) (hs : ∀ g, Rw S k g → Sp (Rw (truS Z k) k) g) (hk : rankTo S k = k) (i : Nat) (hi : i < k) (r : Nat → Nat) (hr : S i = some r) : r = tru Z k i := by
  funext j
  have ht := tru_red hz k
  rw [(hs r ⟨i, hi, hr⟩).comb ht j, comb_single (truS Z k) r j i k (tru Z k i) hi (if_pos hi) fun i' _ h1 h2 _ => ?_, hR.one i r hi hr, mul_one' _ (tru_byt hz k i j)]
  obtain ⟨r', hr'⟩ := rank_full S k hk i' h1
  exact hR.off i r hi hr i' r' h1 h2 hr'

/-- The rows that are there come to the same sums as those that came, all of them sums that the text has. -/
structure Gath (k : Nat) (Z : Nat → Nat → Nat) (S : Nat → Option (Nat → Nat)) (G : (Nat → Nat) → Prop) : Prop where
  red : Red S k
  fit : ∀ g, Rw S k g → Sp (Rw (truS Z k) k) g
  to : ∀ g, Rw S k g → Sp G g
  back : ∀ g, G g → Sp (Rw S k) g
theorem Gath.empty (k : Nat) (Z : Nat → Nat → Nat) {G : (Nat → Nat) → Prop} (h : ∀ g, ¬ G g) : Gath k Z (fun _ => none) G :=
  ⟨Red.empty k, fun _ ⟨_, _, h⟩ => (nomatch h), fun _ ⟨_, _, h⟩ => (nomatch h), fun g hg => absurd hg (h g)⟩
theorem Gath.congr {k : Nat} {Z : Nat → Nat → Nat} {S : Nat → Option (Nat → Nat)} {G H : (Nat → Nat) → Prop} (h : Gath k Z S G) (hG : ∀ g, G g ↔ H g) : Gath k Z S H :=
  ⟨h.red, h.fit, fun g hg => (h.to g hg).mono fun g hg => Sp.gen ((hG g).1 hg) ((h.back g hg).byt), fun g hg => h.back g ((hG g).2 hg)⟩
theorem Gath.step {k : Nat} {Z : Nat → Nat → Nat} {S : Nat → Option (Nat → Nat)} {G : (Nat → Nat) → Prop} (hz : ∀ i j, Z i j < 256) (h : Gath k Z S G) {v : Nat → Nat} (hv : Sp (Rw (truS Z k) k) v) :
    Gath k Z (addOf S k v).2 (fun g => G g ∨ g = v) ∧ ((addOf S k v = (false, S) ∧ Sp (Rw S k) v) ∨ ((addOf S k v).1 = true ∧ rankTo (addOf S k v).2 k = rankTo S k + 1)) := by
  have gen : ∀ g, G g → Sp (fun g => G g ∨ g = v) g := fun g hg => Sp.gen (.inl hg) (h.back g hg).byt
  rcases add_spec h.red hv.byt with ⟨e, u, hu, huv⟩ | ⟨S', e, hR, h1, h2, h3, h4, -⟩
  · rw [e]
    have hvu : v = u := Sp.told (tru_red hz k) hv (hu.mono h.fit) huv
    have hvS : Sp (Rw S k) v := by rw [hvu]; exact hu
    refine ⟨⟨h.red, h.fit, fun g hg => (h.to g hg).mono gen, fun g hg => ?_⟩, .inl ⟨rfl, hvS⟩⟩
    rcases hg with hg | rfl
    · exact h.back g hg
    · exact hvS
  · rw [e]
    refine ⟨⟨hR, fun g hg => (h1 g hg).mono fun g hg => ?_, fun g hg => (h1 g hg).mono fun g hg => ?_, fun g hg => ?_⟩, .inr ⟨rfl, h4⟩⟩
    · rcases hg with hg | rfl
      · exact h.fit g hg
      · exact hv
    · rcases hg with hg | rfl
      · exact (h.to g hg).mono gen
      · exact Sp.gen (.inr rfl) hv.byt
    · rcases hg with hg | rfl
      · exact (h.back g hg).mono h2
      · exact h3
/-- Rows that came to the same sums have one rank. -/
theorem Gath.rank {k : Nat} {Z Y : Nat → Nat → Nat} {S T : Nat → Option (Nat → Nat)} {G H : (Nat → Nat) → Prop} (h : Gath k Z S G) (h' : Gath k Y T H) (hG : ∀ g, G g ↔ H g) : rankTo S k = rankTo T k := by
  refine rank_same k (Red.same h.red h'.red (fun g hg => (h.to g hg).mono fun g hg => h'.back g ((hG g).1 hg)) (fun g hg => (h'.to g hg).mono fun g hg => h.back g ((hG g).2 hg)))

/-- The rows of the text's own places below k that M names. -/
def Unis (Z : Nat → Nat → Nat) (k : Nat) (M : Nat → Prop) (g : Nat → Nat) : Prop := ∃ i, i < k ∧ M i ∧ g = tru Z k i
theorem unis_at {Z : Nat → Nat → Nat} {k i : Nat} {M : Nat → Prop} (hi : i < k) (hM : ¬ M i) : ∀ g, Unis Z k M g → g i = 0 := by
  rintro g ⟨j, hj, hm, rfl⟩
  rw [tru_low Z hi, if_neg]
  rintro rfl
  exact hM hm
theorem unis_sp {Z : Nat → Nat → Nat} {k : Nat} {M : Nat → Prop} (R : Nat → Nat) (hR : ∀ i, R i < 256) (h0 : ∀ i, i < k → ¬ M i → R i = 0) : ∀ t, t ≤ k → Sp (Unis Z k M) (mixTo R (tru Z k) t) := by
  intro t
  induction t with
  | zero => intro _; exact Sp.zero
  | succ t ih =>
    intro ht
    by_cases hm : M t
    · exact Sp.step (ih (by omega)) ⟨t, by omega, hm, rfl⟩ (hR t)
    · have e : mixTo R (tru Z k) (t + 1) = mixTo R (tru Z k) t := by
        funext j
        rw [mixTo_succ, h0 t (by omega) hm, Gf.zero_mul, Nat.xor_zero]
      rw [e]
      exact ih (by omega)
theorem tru_sp {Z : Nat → Nat → Nat} (hz : ∀ i j, Z i j < 256) {k i : Nat} (hi : i < k) : Sp (Rw (truS Z k) k) (tru Z k i) := Sp.gen ⟨i, hi, if_pos hi⟩ (tru_byt hz k i)
/-- A row of the text's own says more, as long as its place lacks. -/
theorem Gath.unit {k : Nat} {Z : Nat → Nat → Nat} {S : Nat → Option (Nat → Nat)} {M : Nat → Prop} (hz : ∀ i j, Z i j < 256) (h : Gath k Z S (Unis Z k M)) {v : Nat → Nat} (hv : Sp (Rw (truS Z k) k) v) {i : Nat} (hi : i < k) (hM : ¬ M i) (hvi : v i ≠ 0) :
    (addOf S k v).1 = true ∧ rankTo (addOf S k v).2 k = rankTo S k + 1 ∧ Gath k Z (addOf S k v).2 (fun g => Unis Z k M g ∨ g = v) := by
  obtain ⟨h1, h2⟩ := h.step hz hv
  rcases h2 with ⟨-, h3⟩ | ⟨h3, h4⟩
  · exact absurd ((h3.mono h.to).zero_at i (unis_at hi hM)) hvi
  · exact ⟨h3, h4, h1⟩
theorem unis_next {Z : Nat → Nat → Nat} {k i : Nat} {M M' : Nat → Prop} (hi : i < k) (h : ∀ j, j < k → (M' j ↔ M j ∨ j = i)) (g : Nat → Nat) : (Unis Z k M g ∨ g = tru Z k i) ↔ Unis Z k M' g := by
  constructor
  · rintro (⟨j, hj, hm, e⟩ | e)
    · exact ⟨j, hj, (h j hj).2 (.inl hm), e⟩
    · exact ⟨i, hi, (h i hi).2 (.inr rfl), e⟩
  · rintro ⟨j, hj, hm, e⟩
    rcases (h j hj).1 hm with hm | rfl
    · exact .inl ⟨j, hj, hm, e⟩
    · exact .inr e

/-- One step of both, the document's with none but the first k places. -/
theorem PInv.low {k d : Nat} {S : Nat → Option (Nat → Nat)} {V : Nat → Nat → Nat} (h : PInv k d S V) {n : Nat} {Vr : Nat → Nat → Nat} {T : Nat → Option (Nat → Nat)} (st : Stg d k n (fun t => trunc k (V t)) Vr T) : n = d := by
  rw [← h.rk, ← tr_rank k k S]
  refine st.rank h.red.tr (fun g hg => ?_) (fun t ht => ⟨trunc k (V t), (h.back t ht).trunc k fun g hg => ?_, fun _ _ => rfl⟩)
  · obtain ⟨i, hi, hg⟩ := hg
    obtain ⟨r0, h0, rfl⟩ := tr_some hg
    refine (h.to r0 ⟨i, hi, h0⟩).trunc k fun g hg => ?_
    obtain ⟨t, ht, rfl⟩ := hg
    exact Sp.gen ⟨t, ht, rfl⟩ (trunc_byt (h.byt t ht))
  · obtain ⟨i, hi, hr⟩ := hg
    exact Sp.gen ⟨i, hi, by unfold tr; rw [hr]; rfl⟩ (trunc_byt (h.red.byt i g hi hr))
theorem more_trunc (k : Nat) (V : Nat → Nat → Nat) (d : Nat) (v : Nat → Nat) : (fun t => trunc k (more V d v t)) = more (fun t => trunc k (V t)) d (trunc k v) := by
  funext t
  unfold more
  split <;> rfl
theorem PInv.stepLow {k d : Nat} {S : Nat → Option (Nat → Nat)} {V : Nat → Nat → Nat} (h : PInv k d S V) {v : Nat → Nat} (hv : Byt v) :
    (addOf S k v = (false, S) ∧ ∀ n Vr T, Stg (d + 1) k n (more (fun t => trunc k (V t)) d (trunc k v)) Vr T → n = d) ∨
    (∃ S', addOf S k v = (true, S') ∧ PInv k (d + 1) S' (more V d v) ∧ ∀ n Vr T, Stg (d + 1) k n (more (fun t => trunc k (V t)) d (trunc k v)) Vr T → n = d + 1) := by
  rcases h.step hv with ⟨e, -⟩ | ⟨S', e, h', -⟩
  · refine .inl ⟨e, fun n Vr T st => ?_⟩
    rcases add_spec h.red hv with ⟨-, u, hu, huv⟩ | ⟨S', e', -⟩
    · rw [← h.rk, ← tr_rank k k S]
      have genS : ∀ g, Rw S k g → Sp (Rw (tr k S) k) (trunc k g) := by
        rintro g ⟨i, hi, hg⟩
        exact Sp.gen ⟨i, hi, by unfold tr; rw [hg]; rfl⟩ (trunc_byt (h.red.byt i g hi hg))
      refine st.rank h.red.tr (fun g hg => ?_) (fun t ht => ?_)
      · obtain ⟨i, hi, hg⟩ := hg
        obtain ⟨r0, h0, rfl⟩ := tr_some hg
        refine (h.to r0 ⟨i, hi, h0⟩).trunc k fun g hg => ?_
        obtain ⟨t, ht, rfl⟩ := hg
        exact Sp.gen ⟨t, by omega, more_old (fun t => trunc k (V t)) d (trunc k v) t ht⟩ (trunc_byt (h.byt t ht))
      · by_cases et : t = d
        · subst et
          refine ⟨trunc k u, hu.trunc k genS, fun j hj => ?_⟩
          rw [more_new]
          unfold trunc
          rw [if_pos hj, if_pos hj]
          exact huv j hj
        · exact ⟨trunc k (V t), (h.back t (by omega)).trunc k genS, fun j _ => by rw [← more_old (fun t => trunc k (V t)) d (trunc k v) t (by omega)]⟩
    · rw [e] at e'
      cases e'
  · exact .inr ⟨S', e, h', fun n Vr T st => h'.low (by rw [more_trunc]; exact st)⟩
/-- What both hold are sums that the text has, if what came is. -/
theorem PInv.fit {k d : Nat} {Z : Nat → Nat → Nat} {S : Nat → Option (Nat → Nat)} {V : Nat → Nat → Nat} (h : PInv k d S V) (hV : ∀ t, t < d → Sp (Rw (truS Z k) k) (V t)) : ∀ g, Rw S k g → Sp (Rw (truS Z k) k) g := fun g hg =>
  (h.to g hg).mono fun g hg => by
    obtain ⟨t, ht, rfl⟩ := hg
    exact hV t ht
end Go.Proofs.Ytgbeklifcchmlaa

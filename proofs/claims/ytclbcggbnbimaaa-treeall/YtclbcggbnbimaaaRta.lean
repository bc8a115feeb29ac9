/-
  The document's Above: what its rounds hold.
-/
import Derived.Test.YtclbcggbnbimaaaRtd
namespace Go.Proofs.Ytclbcggbnbimaaa
open Go.RowKit Go.Deep

/-- Whom a walk from the place of x reaches. -/
def Ups (K : Nat → Fr) (R : Nat → Nat → Int) (m x q : Nat) : Prop := ∃ s, plc K m x = some s ∧ Up (Edge K R m) s q
/-- Marks, by place. -/
def at' (K : Nat → Fr) (g : Nat → Bool) : Nat → Bool := fun q => g (K q).id
/-- One ID more is marked. -/
def also (g : Nat → Bool) (y : Nat) : Nat → Bool := fun z => if z = y then true else g z
theorem also_self (g : Nat → Bool) (y : Nat) : also g y y = true := if_pos rfl
theorem also_old {g : Nat → Bool} {y z : Nat} (h : g z = true) : also g y z = true := by
  unfold also
  split
  · rfl
  · exact h
theorem unm_congr {g g' : Nat → Bool} : ∀ m, (∀ q, q < m → g q = g' q) → unm g m = unm g' m
  | 0, _ => rfl
  | m + 1, h => by
    unfold unm
    rw [unm_congr m (fun q hq => h q (by omega)), h m (by omega)]
/-- How many known ones are not marked can be read off the world. -/
theorem left_exists (mb : Nat) (K : Nat → Fr) (m : Nat) (hI : ∀ q, q < m → (K q).id < 4294967296) : ∃ left : World → Nat, ∀ w k g, MarkAt w mb k g → left w = unm (at' K g) m :=
  ⟨fun w => unm (fun q => match (Instr.lookup 48 (.map (some mb)) (.int .u32 ((K q).id : Int)) false).run Try.prog w with
    | .ok (.bool b) _ => b
    | _ => false) m, fun w k g h => unm_congr m fun q hq => by
      rw [h.look (hI q hq)]
      rfl⟩
/-- The state of the document's Above: what is marked is reached, and the first ones are marked. -/
structure Rst (w wr : World) (mb k : Nat) (g : Nat → Bool) (K : Nat → Fr) (R : Nat → Nat → Int) (m x : Nat) : Prop where
  bel : Below w.heap.size w wr
  mrk : MarkAt wr mb k g
  snd : ∀ y, g y = true → ∃ q, q < m ∧ (K q).id = y ∧ Ups K R m x q
  le : k + unm (at' K g) m ≤ 2000
theorem Rst.grew {w wr w2 : World} {mb k : Nat} {g : Nat → Bool} {K : Nat → Fr} {R : Nat → Nat → Int} {m x : Nat} (h : Rst w wr mb k g K R m x) (hb : Below wr.heap.size wr w2) : Rst w w2 mb k g K R m x :=
  ⟨h.bel.trans (hb.mono h.bel.size), h.mrk.below hb (Nat.le_refl _), h.snd, h.le⟩
/-- One is marked anew. -/
theorem Rst.put {w wr : World} {mb k y q : Nat} {g : Nat → Bool} {K : Nat → Fr} {R : Nat → Nat → Int} {m x : Nat} (h : Rst w wr mb k g K R m x) (hmb : w.heap.size ≤ mb) (hy : y < 4294967296) (hq : q < m) (hid : (K q).id = y) (hu : Ups K R m x q) (h0 : g y = false) :
    ∃ w', (Instr.mapUpdate 48 (.map (some mb)) (.int .u32 (y : Int)) (.bool true)).run Try.prog wr = .ok () w' ∧ Rst w w' mb (k + 1) (also g y) K R m x ∧ unm (at' K (also g y)) m < unm (at' K g) m ∧ Kept mb wr w' := by
  obtain ⟨w', e, h1, h2⟩ := h.mrk.put hy (by have := h.le; omega)
  have hlt : unm (at' K (also g y)) m < unm (at' K g) m := unm_lt (p := q) (show g (K q).id = false by rw [hid]; exact h0) (show also g y (K q).id = true by rw [hid]; exact also_self _ _) m hq (fun r _ hr => also_old hr)
  refine ⟨w', e, ⟨?_, h1, fun z hz => ?_, by have := h.le; omega⟩, hlt, ⟨h2.os, h2.tape, h2.output, h2.size, fun i hi hne => h2.block i hi (fun e => hne (by cases e; rfl))⟩⟩
  · exact h.bel.trans ⟨h2.os, h2.tape, h2.output, h2.size, fun i hi => h2.block i (Nat.lt_of_lt_of_le hi h.bel.size) (fun e => by cases e; omega)⟩
  · unfold also at hz
    split at hz
    · rename_i e; exact ⟨q, hq, by rw [hid, e], hu⟩
    · exact h.snd z hz
/-- One is marked, maybe again. -/
theorem Rst.mark {w wr : World} {mb k y q : Nat} {g : Nat → Bool} {K : Nat → Fr} {R : Nat → Nat → Int} {m x : Nat} (h : Rst w wr mb k g K R m x) (hmb : w.heap.size ≤ mb) (hk : k + m ≤ 1999) (hy : y < 4294967296) (hq : q < m) (hid : (K q).id = y) (hu : Ups K R m x q) :
    ∃ w', (Instr.mapUpdate 48 (.map (some mb)) (.int .u32 (y : Int)) (.bool true)).run Try.prog wr = .ok () w' ∧ Rst w w' mb (k + 1) (also g y) K R m x ∧ Kept mb wr w' := by
  obtain ⟨w', e, h1, h2⟩ := h.mrk.put hy (by omega)
  refine ⟨w', e, ⟨?_, h1, fun z hz => ?_, ?_⟩, ⟨h2.os, h2.tape, h2.output, h2.size, fun i hi hne => h2.block i hi (fun e => hne (by cases e; rfl))⟩⟩
  · exact h.bel.trans ⟨h2.os, h2.tape, h2.output, h2.size, fun i hi => h2.block i (Nat.lt_of_lt_of_le hi h.bel.size) (fun e => by cases e; omega)⟩
  · unfold also at hz
    split at hz
    · rename_i e; exact ⟨q, hq, by rw [hid, e], hu⟩
    · exact h.snd z hz
  · have := unm_le (at' K (also g y)) m
    omega
/-- Of the first t Refs r all that are known are marked. -/
def Fst (K : Nat → Fr) (m : Nat) (r : Nat → Int) (g : Nat → Bool) (t : Nat) : Prop := ∀ j, j < t → ∀ q, q < m → r j = ((K q).id : Int) → g (K q).id = true
theorem Fst.nil (K : Nat → Fr) (m : Nat) (r : Nat → Int) (g : Nat → Bool) : Fst K m r g 0 := fun j h => absurd h (Nat.not_lt_zero j)
theorem Fst.skip {K : Nat → Fr} {m t y : Nat} {r : Nat → Int} {g : Nat → Bool} (h : Fst K m r g t) (hy : r t = (y : Int)) (hn : plc K m y = none) : Fst K m r g (t + 1) := fun j hj q hq e => by
  by_cases e2 : j = t
  · subst e2
    exact absurd (by omega) (plc_none m hn q hq)
  · exact h j (by omega) q hq e
theorem Fst.have {K : Nat → Fr} {m t y : Nat} {r : Nat → Int} {g : Nat → Bool} (h : Fst K m r g t) (hy : r t = (y : Int)) (hg : g y = true) : Fst K m r g (t + 1) := fun j hj q hq e => by
  by_cases e2 : j = t
  · subst e2
    have : (K q).id = y := by omega
    rw [this]
    exact hg
  · exact h j (by omega) q hq e
theorem Fst.also {K : Nat → Fr} {m t y : Nat} {r : Nat → Int} {g : Nat → Bool} (h : Fst K m r g t) : Fst K m r (also g y) t := fun j hj q hq e => also_old (h j hj q hq e)
/-- Where the first t marked ones hang on is marked. -/
def ShutTo (K : Nat → Fr) (R : Nat → Nat → Int) (m : Nat) (g : Nat → Bool) (t : Nat) : Prop := ∀ i, i < t → g (K i).id = true → ∀ q, Edge K R m i q → g (K q).id = true
theorem ShutTo.nil (K : Nat → Fr) (R : Nat → Nat → Int) (m : Nat) (g : Nat → Bool) : ShutTo K R m g 0 := fun i h => absurd h (Nat.not_lt_zero i)
theorem ShutTo.not {K : Nat → Fr} {R : Nat → Nat → Int} {m t : Nat} {g : Nat → Bool} (h : ShutTo K R m g t) (hg : g (K t).id = false) : ShutTo K R m g (t + 1) := fun i hi h1 q hq => by
  by_cases e : i = t
  · subst e
    rw [hg] at h1
    cases h1
  · exact h i (by omega) h1 q hq
theorem ShutTo.yes {K : Nat → Fr} {R : Nat → Nat → Int} {m t : Nat} {g : Nat → Bool} (h : ShutTo K R m g t) (hf : Fst K m (R t) g (K t).n) : ShutTo K R m g (t + 1) := fun i hi h1 q hq => by
  by_cases e : i = t
  · subst e
    obtain ⟨-, h2, j, hj, e2⟩ := hq
    exact hf j hj q h2 e2
  · exact h i (by omega) h1 q hq
/-- How far a round came: something was marked, or nothing and the first t are shut. -/
def Rnd (K : Nat → Fr) (R : Nat → Nat → Int) (m u0 : Nat) (g : Nat → Bool) (b : Bool) (t : Nat) : Prop :=
  (b = true ∧ unm (at' K g) m < u0) ∨ (b = false ∧ unm (at' K g) m ≤ u0 ∧ ShutTo K R m g t)
/-- .. within a round: the first j Refs of the next, which is marked. -/
def RndIn (K : Nat → Fr) (R : Nat → Nat → Int) (m u0 : Nat) (g : Nat → Bool) (b : Bool) (t j : Nat) : Prop :=
  (b = true ∧ unm (at' K g) m < u0) ∨ (b = false ∧ unm (at' K g) m ≤ u0 ∧ ShutTo K R m g t ∧ Fst K m (R t) g j)
theorem Rnd.inn {K : Nat → Fr} {R : Nat → Nat → Int} {m u0 t : Nat} {g : Nat → Bool} {b : Bool} (h : Rnd K R m u0 g b t) : RndIn K R m u0 g b t 0 := by
  rcases h with h | ⟨h1, h2, h3⟩
  · exact .inl h
  · exact .inr ⟨h1, h2, h3, Fst.nil _ _ _ _⟩
theorem RndIn.skip {K : Nat → Fr} {R : Nat → Nat → Int} {m u0 t j y : Nat} {g : Nat → Bool} {b : Bool} (h : RndIn K R m u0 g b t j) (hy : R t j = (y : Int)) (hn : plc K m y = none ∨ g y = true) : RndIn K R m u0 g b t (j + 1) := by
  rcases h with h | ⟨h1, h2, h3, h4⟩
  · exact .inl h
  · refine .inr ⟨h1, h2, h3, ?_⟩
    rcases hn with hn | hn
    · exact h4.skip hy hn
    · exact h4.have hy hn
theorem RndIn.put {K : Nat → Fr} {R : Nat → Nat → Int} {m u0 t j y : Nat} {g : Nat → Bool} {b : Bool} (h : RndIn K R m u0 g b t j) (hlt : unm (at' K (also g y)) m < unm (at' K g) m) (j' : Nat) : RndIn K R m u0 (also g y) true t j' := by
  refine .inl ⟨rfl, ?_⟩
  rcases h with ⟨-, h⟩ | ⟨-, h, -⟩ <;> omega
theorem RndIn.not {K : Nat → Fr} {R : Nat → Nat → Int} {m u0 t j : Nat} {g : Nat → Bool} {b : Bool} (h : RndIn K R m u0 g b t j) (hg : g (K t).id = false) : Rnd K R m u0 g b (t + 1) := by
  rcases h with h | ⟨h1, h2, h3, -⟩
  · exact .inl h
  · exact .inr ⟨h1, h2, h3.not hg⟩
theorem RndIn.yes {K : Nat → Fr} {R : Nat → Nat → Int} {m u0 t : Nat} {g : Nat → Bool} {b : Bool} (h : RndIn K R m u0 g b t (K t).n) : Rnd K R m u0 g b (t + 1) := by
  rcases h with h | ⟨h1, h2, h3, h4⟩
  · exact .inl h
  · exact .inr ⟨h1, h2, h3.yes h4⟩
/-- At the end all that is reached is marked, and nothing else. -/
theorem Rst.done {w wr : World} {mb k : Nat} {g : Nat → Bool} {K : Nat → Fr} {R : Nat → Nat → Int} {m x : Nat} (h : Rst w wr mb k g K R m x) (hr : Rise K m) (hf : ∀ s, plc K m x = some s → Fst K m (R s) g (K s).n) (hs : ShutTo K R m g m) (q : Nat) (hq : q < m) :
    (g (K q).id = true ∧ (K q).id ≠ x) ↔ Behind (Edge K R m) K m x q := by
  constructor
  · rintro ⟨h1, h2⟩
    obtain ⟨p, p1, p2, s, s1, s2⟩ := h.snd _ h1
    have : p = q := hr.eq p1 hq p2
    subst this
    refine ⟨s, s1, s2, fun e => h2 ?_⟩
    rw [e]
    exact (plc_some m s1).2
  · rintro ⟨s, s1, s2, s3⟩
    have e := plc_some m s1
    refine ⟨?_, fun e2 => s3 (hr.eq hq e.1 (by rw [e2]; exact e.2.symm))⟩
    have := s2.into (M := fun q => q < m ∧ g (K q).id = true) (fun p hp => ⟨hp.2.1, by
      obtain ⟨-, h2, j, hj, e2⟩ := hp
      exact hf s s1 j hj p h2 e2⟩) (fun p hp r hr => ⟨hr.2.1, hs p hp.1 hp.2 r hr⟩)
    exact this.2
end Go.Proofs.Ytclbcggbnbimaaa

/-
  Two lists of rows that grow side by side, in memory of the call's own; lists of rows that are written in place.
-/
import Derived.Test.YthlidbenhlidjaaRefRow
import Derived.Test.YthlidbenhlidjaaZer
import Derived.Maps.AppendAt
namespace Go.Proofs.Ythlidbenhlidjaa
open Go.RowKit Go.Deep

/-- Two lists behind ja and jb rounds. -/
structure Cp (w0 w : World) (va vb : Value) (ja jb k size : Nat) (V Y : Nat → Nat → Nat) : Prop where
  a : Own w w0.heap.size va ja k V
  b : Own w w0.heap.size vb jb size Y
  ne : ∀ g, va.ownBlock = some g → vb.ownBlock ≠ some g
  below : Below w0.heap.size w0 w
theorem Cp.grew {w0 w w' : World} {va vb : Value} {ja jb k size : Nat} {V Y : Nat → Nat → Nat} (h : Cp w0 w va vb ja jb k size V Y) (hb : Below w.heap.size w w') : Cp w0 w' va vb ja jb k size V Y :=
  ⟨h.a.grew hb, h.b.grew hb, h.ne, h.below.trans (hb.mono h.below.size)⟩
theorem Cp.turn {w0 w : World} {va vb : Value} {ja jb k size : Nat} {V Y : Nat → Nat → Nat} (h : Cp w0 w va vb ja jb k size V Y) : Cp w0 w vb va jb ja size k Y V :=
  ⟨h.b, h.a, fun g e1 e2 => h.ne g e2 e1, h.below⟩

theorem Cp.push {w0 W : World} {va vb : Value} {ja jb k size : Nat} {V Y : Nat → Nat → Nat} (h : Cp w0 W va vb ja jb k size V Y) (q g c : Nat) (ty : TypeId) (hc : W.cell? ⟨q, 0, none⟩ = some (.slice (some ⟨g, 0, none⟩) k c)) (hB : BytesAt W (some ⟨g, 0, none⟩) k (V ja)) (hk : 0 < k) (hs : 0 < size) (hj : ja ≤ 1000) :
    ∃ va' W', (Builtin.append_ #[77, 77] ty #[va, .slice (some ⟨q, 0, none⟩) 1 1]).run Try.prog W = .ok va' W' ∧ Cp w0 W' va' vb (ja + 1) jb k size V Y := by
  obtain ⟨i0, hi, hz0, hz1, hz2⟩ := info_parts Try.infoRow
  obtain ⟨xs, ho, h0, hx⟩ := h.a
  have hbase := h.below.size
  obtain ⟨va', W', hr, hown, hgr, hnil, hat⟩ := run_append_own_at (P := Try.prog) W w0.heap.size 77 ty 26 i0 (.slice none 0 0) 1 24 Try.underlying77 hi hz0 hz1 hz2 rfl (by decide) va ja xs ho ⟨q, 0, none⟩ 1 1 [.slice (some ⟨g, 0, none⟩) k c] rfl
    (fun j u hj => by
      cases j with
      | zero => cases hj; exact hc
      | succ j => simp at hj) (by intro u hu; simp at hu; subst hu; rfl) (by unfold maxLen; omega) (by omega) hbase
  have hlt := ho.lt
  refine ⟨va', W', hr, ⟨⟨_, hown, fun e => absurd e (by omega), fun i hi => ?_⟩, ?_, ?_, h.below.grown hgr hbase (fun k' e => (hlt k' e).1)⟩⟩
  · by_cases e : i = ja
    · subst e
      refine ⟨g, c, ?_, hB.grown hgr (h.a.apart hB hk)⟩
      have hl := ho.1
      rw [Nat.mul_one] at hl
      rw [List.getElem?_append_right (by omega), hl, Nat.sub_self]
      rfl
    · obtain ⟨b, cc, h1, h2⟩ := hx i (by omega)
      have hl := ho.1
      rw [Nat.mul_one] at hl
      exact ⟨b, cc, by rw [List.getElem?_append_left (by omega)]; exact h1, h2.grown hgr (h.a.apart h2 hk)⟩
  · obtain ⟨ys, po, p0, px⟩ := h.b
    refine ⟨ys, po.kept hgr ?_, fun hj g' e => ?_, fun i hi => ?_⟩
    rotate_left
    · rw [World.cell?_of_block (w := W) (hgr.block g' (po.lt g' e).2 (fun e2 => h.ne g' e2.symm e))]
      exact p0 hj g' e
    rotate_left
    · cases e : vb.ownBlock with
      | none => exact .inl rfl
      | some gb =>
        refine .inr fun e2 => ?_
        exact h.ne gb e2.symm e
    · obtain ⟨b, cc, h1, h2⟩ := px i hi
      exact ⟨b, cc, h1, h2.grown hgr (h.a.apart h2 hs)⟩
  · intro g' e1 e2
    obtain ⟨ys, po, -, -⟩ := h.b
    rcases hat with e | e
    · rw [e] at e1; exact h.ne g' e1 e2
    · rw [e] at e1
      have := (po.lt g' e2).2
      have := Option.some.inj e1
      omega

end Go.Proofs.Ythlidbenhlidjaa

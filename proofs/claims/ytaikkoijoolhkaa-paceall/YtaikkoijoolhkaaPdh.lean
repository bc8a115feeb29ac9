/-
  The program's Queue and the document's, side by side: what is done to one leaves the other.
-/
import Derived.Test.YtaikkoijoolhkaaPlv
import Derived.Test.YtaikkoijoolhkaaPd1
import Derived.Test.YtaikkoijoolhkaaPd3
import Derived.BigQuiet
namespace Go.Proofs.Ytaikkoijoolhkaa
open Go.RowKit Go.Deep

/-- Two Queues, B1 and B2; the blocks P belong to neither. -/
structure Dh (w0 : World) (B1 B2 : Nat) (l1 l2 : List It) (P : List Nat) (W : World) : Prop where
  ex : ∃ v1 v2, QAt W w0.heap.size B1 v1 l1 ∧ QAt W w0.heap.size B2 v2 l2 ∧ (∀ k, k ∈ feet B1 v1 → k ∉ feet B2 v2) ∧ ∀ k, k ∈ P → k < W.heap.size ∧ k ∉ feet B1 v1 ∧ k ∉ feet B2 v2
  bel : Below w0.heap.size w0 W
  ok1 : Okl l1
  ok2 : Okl l2
def blk : Option Addr → List Nat
  | some a => [a.block]
  | none => []
section
variable {w0 W W' : World} {B1 B2 : Nat} {l1 l2 l' : List It} {P : List Nat}
theorem Dh.swap (h : Dh w0 B1 B2 l1 l2 P W) : Dh w0 B2 B1 l2 l1 P W := by
  obtain ⟨v1, v2, h1, h2, h3, h4⟩ := h.ex
  exact ⟨⟨v2, v1, h2, h1, fun k hk hk' => h3 k hk' hk, fun k hk => ⟨(h4 k hk).1, (h4 k hk).2.2, (h4 k hk).2.1⟩⟩, h.bel, h.ok2, h.ok1⟩
theorem Dh.grew (h : Dh w0 B1 B2 l1 l2 P W) (b : Below W.heap.size W W') : Dh w0 B1 B2 l1 l2 P W' := by
  obtain ⟨v1, v2, h1, h2, h3, h4⟩ := h.ex
  exact ⟨⟨v1, v2, h1.grew b, h2.grew b, h3, fun k hk => ⟨Nat.lt_of_lt_of_le (h4 k hk).1 b.size, (h4 k hk).2⟩⟩, h.bel.trans (b.mono h.bel.size), h.ok1, h.ok2⟩
theorem Dh.less {Q : List Nat} (h : Dh w0 B1 B2 l1 l2 P W) (hQ : ∀ k, k ∈ Q → k ∈ P) : Dh w0 B1 B2 l1 l2 Q W := by
  obtain ⟨v1, v2, h1, h2, h3, h4⟩ := h.ex
  exact ⟨⟨v1, v2, h1, h2, h3, fun k hk => h4 k (hQ k hk)⟩, h.bel, h.ok1, h.ok2⟩
/-- A new block belongs to neither. -/
theorem Dh.new {k : Nat} (h : Dh w0 B1 B2 l1 l2 P W) (b : Below W.heap.size W W') (h1 : W.heap.size ≤ k) (h2 : k < W'.heap.size) : Dh w0 B1 B2 l1 l2 (k :: P) W' := by
  obtain ⟨v1, v2, q1, q2, h3, h4⟩ := h.ex
  refine ⟨⟨v1, v2, q1.grew b, q2.grew b, h3, fun i hi => ?_⟩, h.bel.trans (b.mono h.bel.size), h.ok1, h.ok2⟩
  rcases List.mem_cons.1 hi with rfl | hi
  · exact ⟨h2, fun e => by have := (q1.feet e).2; omega, fun e => by have := (q2.feet e).2; omega⟩
  · exact ⟨Nat.lt_of_lt_of_le (h4 i hi).1 b.size, (h4 i hi).2⟩
theorem Dh.to {v1 v2 : Value} {Q : List Nat} (q1 : QAt W w0.heap.size B1 v1 l1) (q2 : QAt W w0.heap.size B2 v2 l2) (h3 : ∀ k, k ∈ feet B1 v1 → k ∉ feet B2 v2) (h4 : ∀ k, k ∈ P → k < W.heap.size ∧ k ∉ feet B1 v1 ∧ k ∉ feet B2 v2) (hb : Below w0.heap.size w0 W) (o2 : Okl l2)
    (ht : QTo W W' w0.heap.size B1 v1 l') (o' : Okl l') (hQ : ∀ k, k ∈ Q → k ∈ P ∨ (W.heap.size ≤ k ∧ k < W'.heap.size ∧ ∀ v, QAt W' w0.heap.size B1 v l' → (∀ g, v.ownBlock = some g → v1.ownBlock = some g ∨ W.heap.size ≤ g) → k ∉ feet B1 v)) : Dh w0 B1 B2 l' l2 Q W' ∧ ∀ k, k ∈ P → W'.heap[k]? = W.heap[k]? := by
  obtain ⟨v', q', k', ho⟩ := ht
  have hf : ∀ k, k ∈ feet B1 v' → k ∈ feet B1 v1 ∨ W.heap.size ≤ k := fun k hk => by
    rcases mem_feet.1 hk with h | h
    · exact .inl (mem_feet.2 (.inl h))
    · rcases ho k h with h | h
      · exact .inl (mem_feet.2 (.inr h))
      · exact .inr h
  refine ⟨⟨⟨v', v2, q', q2.but k' (fun k hk e => h3 k e hk), fun k hk e => ?_, fun k hk => ?_⟩, hb.trans (k'.below (fun k hk => (q1.feet hk).1) hb.size), o', o2⟩, fun k hk => k'.block k (h4 k hk).1 (h4 k hk).2.1⟩
  · rcases hf k hk with h | h
    · exact h3 k h e
    · have := (q2.feet e).2; omega
  · rcases hQ k hk with h | ⟨h, h5, h6⟩
    · obtain ⟨p1, p2, p3⟩ := h4 k h
      refine ⟨Nat.lt_of_lt_of_le p1 k'.size, fun e => ?_, p3⟩
      rcases hf k e with h | h
      · exact p2 h
      · omega
    · exact ⟨h5, h6 v' q' ho, fun e => by have := (q2.feet e).2; omega⟩
/-- Something is done to the first. -/
theorem Dh.move {fn : Nat} {args : Array Value} {R : Ending → Prop} (h : Dh w0 B1 B2 l1 l2 P W) (o' : Okl l') (C : ∀ v1, QAt W w0.heap.size B1 v1 l1 → Calls Try.prog fn args W fun e w' => R e ∧ QTo W w' w0.heap.size B1 v1 l') :
    Calls Try.prog fn args W fun e w' => R e ∧ Dh w0 B1 B2 l' l2 P w' ∧ ∀ k, k ∈ P → w'.heap[k]? = W.heap[k]? := by
  obtain ⟨v1, v2, q1, q2, h3, h4⟩ := h.ex
  refine Calls.mono (C v1 q1) ?_
  rintro e w' ⟨hr, ht⟩
  exact ⟨hr, Dh.to q1 q2 h3 h4 h.bel h.ok2 ht o' (fun k hk => .inl hk)⟩
/-- Some go out of the first. -/
theorem Dh.gone {fn : Nat} {args : Array Value} {g : List It} (h : Dh w0 B1 B2 l1 l2 P W) (o' : Okl l') (C : ∀ v1, QAt W w0.heap.size B1 v1 l1 → Calls Try.prog fn args W fun e w' => ∃ r c, e = .returned (.slice r g.length c) ∧ Ir w' W.heap.size (.slice r g.length c) g ∧ (∀ b, (Value.slice r g.length c).ownBlock = some b → ∀ v, QAt w' w0.heap.size B1 v l' → (∀ g', v.ownBlock = some g' → v1.ownBlock = some g' ∨ W.heap.size ≤ g') → b ∉ feet B1 v) ∧ QTo W w' w0.heap.size B1 v1 l') :
    Calls Try.prog fn args W fun e w' => ∃ r c, e = .returned (.slice r g.length c) ∧ LsAt iE w' r g ∧ Dh w0 B1 B2 l' l2 (blk r ++ P) w' ∧ ∀ k, k ∈ P → w'.heap[k]? = W.heap[k]? := by
  obtain ⟨v1, v2, q1, q2, h3, h4⟩ := h.ex
  refine Calls.mono (C v1 q1) ?_
  rintro e w' ⟨r, c, rfl, hr, hs, ht⟩
  obtain ⟨r', c', e2, hls, -⟩ := Lr.any hr
  injection e2 with e3 e4 e5
  subst e3
  refine ⟨r, c, rfl, hls, Dh.to q1 q2 h3 h4 h.bel h.ok2 ht o' (fun k hk => ?_)⟩
  rcases List.mem_append.1 hk with hk | hk
  · cases hrr : r with
    | none => rw [hrr] at hk; simp [blk] at hk
    | some x =>
      rw [hrr] at hk
      simp [blk] at hk
      subst hk
      have hown : (Value.slice r g.length c).ownBlock = some x.block := by rw [hrr]; rfl
      have := Lr.lt hr _ hown
      exact .inr ⟨this.1, this.2, fun v hv ho => hs _ hown v hv ho⟩
  · exact .inl hk
end
theorem blk_same {W W' : World} {r : Option Addr} {g : List It} (h : LsAt iE W r g) (hk : ∀ k, k ∈ blk r → W'.heap[k]? = W.heap[k]?) : LsAt iE W' r g :=
  h.block fun b o e _ => hk b (by rw [e]; simp [blk])
end Go.Proofs.Ytaikkoijoolhkaa

/-
  Solve: the symbols, once there are as many rows as unknowns.
-/
import Derived.Test.YtdlalcbcgdambaaAdd
namespace Go.Proofs.Ytdlalcbcgdambaa
open Go.RowKit Go.Deep

theorem slice_from (b n c lo : Nat) (w : World) (h1 : lo ≤ n) (h2 : lo < c) : (Instr.slice 24 (.slice (some ⟨b, 0, none⟩) n c) (some (.int .i64 (lo : Int))) none none).run Try.prog w = .ok (.slice (some ⟨b, lo, none⟩) (n - lo) (c - lo)) w := by
  have e := run_slice_l (P := Try.prog) w 24 (some ⟨b, 0, none⟩) n c Try.underlying24 .i64 (lo : Int) (by omega) (by omega)
  rw [e]
  have hs : (sizeOf (Try.prog.elem 24)).run Try.prog w = .ok 1 w := by kernel_rfl
  rw [hs]
  have hz : (⟨b, 0, none⟩ : Addr).add lo = ⟨b, lo, none⟩ := by unfold Addr.add; split <;> simp_all
  simp only [Result.andThen, sliced, Int.toNat_natCast, Nat.mul_one, Option.map_some, hz]
  rw [if_neg (by omega)]

theorem rank_full (S : Nat → Option (Nat → Nat)) : ∀ k, rankTo S k = k → ∀ i, i < k → ∃ r, S i = some r := by
  intro k
  induction k with
  | zero => intro _ i hi; omega
  | succ k ih =>
    intro h i hi
    have hl := rankTo_le S k
    unfold rankTo at h
    cases hS : S k with
    | none => rw [hS] at h; simp at h; omega
    | some r =>
      rw [hS] at h
      simp at h
      by_cases e : i = k
      · subst e; exact ⟨r, hS⟩
      · exact ih h i (by omega)

/-- The first j symbols stand in the room L. -/
def SymsTo (w : World) (L k size : Nat) (S : Nat → Option (Nat → Nat)) (j : Nat) (A : Nat → Value) : Prop :=
  ∀ i, i < j → ∃ r b c, S i = some r ∧ A i = .slice (some ⟨b, 0, none⟩) size c ∧ b ≠ L ∧ BytesAt w (some ⟨b, 0, none⟩) size (fun t => r (k + t))
/-- The symbols were answered. -/
def Solved (w : World) (k size : Nat) (S : Nat → Option (Nat → Nat)) (e : Ending) (w' : World) : Prop :=
  ∃ L A, e = .returned (.tuple #[.slice (some ⟨L, 0, none⟩) k k, .bool true]) ∧ w.heap.size ≤ L ∧ w'.rowIs L 24 k A ∧ SymsTo w' L k size S k A ∧ Below w.heap.size w w'

theorem SymsTo.grew {w w' : World} {L k size j : Nat} {S : Nat → Option (Nat → Nat)} {A : Nat → Value} (h : SymsTo w L k size S j A) (hb : Below w.heap.size w w') : SymsTo w' L k size S j A := by
  intro i hi
  obtain ⟨r, b, c, h1, h2, h3, h4⟩ := h i hi
  exact ⟨r, b, c, h1, h2, h3, h4.grew hb⟩
theorem BytesAt.setOther {w : World} {b n L i : Nat} {x : Nat → Nat} {v : Value} (h : BytesAt w (some ⟨b, 0, none⟩) n x) (hne : b ≠ L) : BytesAt (w.setCell ⟨L, i, none⟩ v) (some ⟨b, 0, none⟩) n x := by
  refine ⟨fun hn => ?_, h.lt⟩
  obtain ⟨b', o, e, hc⟩ := h.cells hn
  refine ⟨b', o, e, fun j hj => ?_⟩
  cases e
  rw [World.cell?_setCell_other _ _ _ _ (fun e => hne (Addr.mk.inj e).1.symm)]
  exact hc j hj
theorem SymsTo.next {w : World} {L k size j g c : Nat} {S : Nat → Option (Nat → Nat)} {A : Nat → Value} {r : Nat → Nat} (h : SymsTo w L k size S j A) (hS : S j = some r) (hg : g ≠ L) (hb : BytesAt w (some ⟨g, 0, none⟩) size (fun t => r (k + t))) :
    SymsTo (w.setCell ⟨L, j, none⟩ (.slice (some ⟨g, 0, none⟩) size c)) L k size S (j + 1) (fun i => if i = j then .slice (some ⟨g, 0, none⟩) size c else A i) := by
  intro i hi
  by_cases e : i = j
  · subst e
    exact ⟨r, g, c, hS, if_pos rfl, hg, hb.setOther hg⟩
  · obtain ⟨r', b, c', h1, h2, h3, h4⟩ := h i (by omega)
    exact ⟨r', b, c', h1, (if_neg e).trans h2, h3, h4.setOther h3⟩

end Go.Proofs.Ytdlalcbcgdambaa

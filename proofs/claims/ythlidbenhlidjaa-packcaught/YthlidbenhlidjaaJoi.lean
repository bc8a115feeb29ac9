/-
  Package cut: Join.
-/
import Derived.Test.YthlidbenhlidjaaSpl
import Derived.Test.YthlidbenhlidjaaOpn
namespace Go.Proofs.Ythlidbenhlidjaa
open Go.RowKit Go.Deep

/-- As ListsAt, with no word on rooms. -/
def RowsAt (w : World) (a : Option Addr) (len : Nat) (A : Nat → Option Addr) (L C : Nat → Nat) (Z : Nat → Nat → Nat) : Prop :=
  0 < len → ∃ b o, a = some ⟨b, o, none⟩ ∧ ∀ i, i < len → w.cell? ⟨b, o + i, none⟩ = some (.slice (A i) (L i) (C i)) ∧ BytesAt w (A i) (L i) (Z i)
theorem ListsAt.rows {w : World} {a : Option Addr} {n : Nat} {A : Nat → Option Addr} {L C : Nat → Nat} {Z : Nat → Nat → Nat} (h : ListsAt w a n A L C Z) : RowsAt w a n A L C Z := fun hn => by
  obtain ⟨b, o, e, hc⟩ := h hn
  exact ⟨b, o, e, fun i hi => ⟨(hc i hi).1, (hc i hi).2.2.2⟩⟩
theorem RowsAt.grew {w w' : World} {a : Option Addr} {n : Nat} {A : Nat → Option Addr} {L C : Nat → Nat} {Z : Nat → Nat → Nat} (h : RowsAt w a n A L C Z) (hb : Below w.heap.size w w') : RowsAt w' a n A L C Z := by
  intro hn
  obtain ⟨b, o, e, hc⟩ := h hn
  refine ⟨b, o, e, fun i hi => ?_⟩
  obtain ⟨h1, h4⟩ := hc i hi
  exact ⟨(hb.cell (p := ⟨b, o + i, none⟩) (cell_lt h1)).trans h1, h4.grew hb⟩

/-- The bytes of symbols of s bytes, one behind the other. -/
def joined (Z : Nat → Nat → Nat) (s i : Nat) : Nat := Z (i / s) (i % s)
/-- .. behind j of them. -/
def joinTo (Z : Nat → Nat → Nat) (s j i : Nat) : Nat := if i < j * s then joined Z s i else 0

theorem join_step (Z : Nat → Nat → Nat) (s j m size i : Nat) (s1 : 1 ≤ s) (hm : m = j * s) (hi : i < size) : over (joinTo Z s j) (Z j) m (min s (size - m)) i = joinTo Z s (j + 1) i := by
  have e : (j + 1) * s = m + s := by rw [Nat.add_mul, Nat.one_mul, hm]
  unfold over joinTo
  rw [e, ← hm]
  by_cases h1 : i < m
  · rw [if_neg (by omega), if_pos h1, if_pos (by omega)]
  · by_cases h2 : i < m + s
    · rw [if_pos (by omega), if_pos h2]
      have h3 : i / s = j := Nat.div_eq_of_lt_le (by omega) (by omega)
      have h4 := Nat.div_add_mod i s
      rw [h3, Nat.mul_comm s j, ← hm] at h4
      unfold joined
      rw [h3, show i % s = i - m by omega]
    · rw [if_neg (by omega), if_neg h1, if_neg h2]
theorem cnt_ge (n s : Nat) (s1 : 1 ≤ s) : n ≤ cntOf n s * s := by
  have h : (n + s - 1) / s < (n + s - 1) / s + 1 := Nat.lt_succ_self _
  have h2 := (Nat.div_lt_iff_lt_mul (by omega)).1 h
  rw [Nat.add_mul, Nat.one_mul] at h2
  unfold cntOf
  omega

theorem joined_piece (x : Nat → Nat) (n s i : Nat) (hi : i < n) : joined (piece x n s) s i = x i := by
  have h := Nat.div_add_mod i s
  unfold joined piece
  rw [Nat.mul_comm (i / s) s, h, if_pos hi]
theorem ListsAt.grew {w w' : World} {a : Option Addr} {n : Nat} {A : Nat → Option Addr} {L C : Nat → Nat} {Z : Nat → Nat → Nat} (h : ListsAt w a n A L C Z) (hb : Below w.heap.size w w') : ListsAt w' a n A L C Z := by
  intro hn
  obtain ⟨b, o, e, hc⟩ := h hn
  refine ⟨b, o, e, fun i hi => ?_⟩
  obtain ⟨h1, h2, h3, h4⟩ := hc i hi
  exact ⟨(hb.cell (p := ⟨b, o + i, none⟩) (cell_lt h1)).trans h1, h2, h3, h4.grew hb⟩

/-- A refusal within: no answer. -/
def Refused (w : World) (e : Ending) (w' : World) : Prop := e = .panicked noted ∧ w' = w

/-- A new row of n bytes x was answered, and yes. -/
def RowYes (w : World) (n : Nat) (x : Nat → Nat) (e : Ending) (w' : World) : Prop :=
  ∃ b c, e = .returned (.tuple #[.slice (some ⟨b, 0, none⟩) n c, .bool true]) ∧ w.heap.size ≤ b ∧ n ≤ c ∧ c ≤ 1000000 ∧ BytesAt w' (some ⟨b, 0, none⟩) n x ∧ Below w.heap.size w w'
/-- Nothing was answered, and no. -/
def RowNo (w : World) (e : Ending) (w' : World) : Prop := e = .returned (.tuple #[.slice none 0 0, .bool false]) ∧ Below w.heap.size w w'

end Go.Proofs.Ythlidbenhlidjaa

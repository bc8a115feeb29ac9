/-
  Package cut: Split.
-/
import Derived.Test.YtgbeklifcchmlaaCnt
import Derived.Test.YtgbeklifcchmlaaCpn
namespace Go.Proofs.Ytgbeklifcchmlaa
open Go.RowKit Go.Deep

/-- The i-th symbol of s bytes of the n bytes x. -/
def piece (x : Nat → Nat) (n s i j : Nat) : Nat := if i * s + j < n then x (i * s + j) else 0

theorem row_bytes' {w : World} {g t K : Nat} {f x : Nat → Nat} (h : w.rowIs g t K (byteAt f)) (hx : ∀ i, i < K → f i = x i) (lt : ∀ i, i < K → x i < 256) : BytesAt w (some ⟨g, 0, none⟩) K x :=
  ⟨fun _ => ⟨g, 0, rfl, fun i hi => by rw [Nat.zero_add, h.cell hi, ← hx i hi]; rfl⟩, lt⟩
theorem piece_lt {x : Nat → Nat} {n s i : Nat} (h : ∀ i, i < n → x i < 256) (j : Nat) : piece x n s i j < 256 := by
  unfold piece
  split
  · exact h _ (by assumption)
  · decide
/-- The first j symbols stand in the room L. -/
def PcsTo (w : World) (L n s : Nat) (x : Nat → Nat) (j : Nat) (A : Nat → Value) : Prop :=
  ∀ i, i < j → ∃ b, A i = .slice (some ⟨b, 0, none⟩) s s ∧ b ≠ L ∧ BytesAt w (some ⟨b, 0, none⟩) s (piece x n s i)

theorem cnt_le (n s : Nat) (s1 : 1 ≤ s) (n2 : n ≤ 32 * s) : cntOf n s ≤ 32 := by
  unfold cntOf
  have : (n + s - 1) / s < 33 := by rw [Nat.div_lt_iff_lt_mul (by omega)]; omega
  omega
theorem cnt_mul (n s i : Nat) (s1 : 1 ≤ s) (_n1 : 1 ≤ n) (h : i < cntOf n s) : i * s < n := by
  unfold cntOf at h
  have h2 : (i + 1) * s ≤ n + s - 1 := (Nat.le_div_iff_mul_le (by omega)).1 h
  rw [Nat.add_mul, Nat.one_mul] at h2
  omega
theorem mul_fits (j s m : Nat) (h : m = j * s) (hm : m ≤ 1000000) : IntKind.i64.wrap ((j : Int) * (s : Int)) = (m : Int) := by
  rw [show (j : Int) * (s : Int) = (m : Int) by rw [h, Int.natCast_mul], IntKind.wrap_i64]
  omega
set_option maxRecDepth 100000 in
theorem slice_from (b o n c l : Nat) (w : World) (h1 : l < n) (h2 : n ≤ c) : (Instr.slice 34 (.slice (some ⟨b, o, none⟩) n c) (some (.int .i64 (l : Int))) none none).run Try.prog w = .ok (.slice (some ⟨b, o + l, none⟩) (n - l) (c - l)) w := by
  have e := run_slice_l (P := Try.prog) w 34 (some ⟨b, o, none⟩) n c Try.underlying34 .i64 (l : Int) (by omega) (by omega)
  rw [e]
  have hs : (sizeOf (Try.prog.elem 34)).run Try.prog w = .ok 1 w := by kernel_rfl
  rw [hs]
  have hz : (⟨b, o, none⟩ : Addr).add l = ⟨b, o + l, none⟩ := by unfold Addr.add; split <;> simp_all
  simp only [Result.andThen, sliced, Int.toNat_natCast, Nat.mul_one, Option.map_some, hz]
  rw [if_neg (by omega)]

/-- A text's symbols were answered. -/
def SplitAns (w : World) (n s k : Nat) (x : Nat → Nat) (e : Ending) (w' : World) : Prop :=
  ∃ L A, e = .returned (.tuple #[.slice (some ⟨L, 0, none⟩) k k, .bool true]) ∧ w.heap.size ≤ L ∧ w'.rowIs L 34 k A ∧ PcsTo w' L n s x k A ∧ Below w.heap.size w w'

theorem duo_below {w0 w : World} {B : Nat} (hb : Below B w0 w) (x y : Value) : Below B w0 ((w.setCell ⟨B, 0, none⟩ x).setCell ⟨B + 1, 0, none⟩ y) :=
  (hb.setCell (Nat.le_refl _) _).setCell (Nat.le_succ _) _
theorem cell_ne {w : World} {b o b' o' : Nat} {v v' : Value} (h : w.cell? ⟨b, o, none⟩ = some v) (h' : w.cell? ⟨b', o', none⟩ = some v') (hb : b = b') (ho : o = o') : v = v' := by
  subst hb ho
  exact Option.some.inj (h.symm.trans h')

end Go.Proofs.Ytgbeklifcchmlaa

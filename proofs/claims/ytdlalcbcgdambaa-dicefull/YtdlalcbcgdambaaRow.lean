/-
  Contracts of package field's rows: Axpy and Dot.
-/
import Derived.Test.YtdlalcbcgdambaaFld
import Derived.Deep.OwnRows
import Derived.Deep.RegionWith
namespace Go.Proofs.Ytdlalcbcgdambaa
open Go.RowKit Go.Deep

/-- The slice's address a leads to n bytes: the i-th is x i. -/
structure BytesAt (w : World) (a : Option Addr) (n : Nat) (x : Nat → Nat) : Prop where
  cells : 0 < n → ∃ b o, a = some ⟨b, o, none⟩ ∧ ∀ i, i < n → w.cell? ⟨b, o + i, none⟩ = some (.int .u8 (x i))
  lt : ∀ i, i < n → x i < 256

/-- The sum of the first k products. -/
def dot (x y : Nat → Nat) : Nat → Nat
  | 0 => 0
  | k + 1 => dot x y k ^^^ Gf.mul (x k) (y k)
theorem dot_lt (x y : Nat → Nat) (k : Nat) : dot x y k < 256 := by
  induction k with
  | zero => show 0 < 256; decide
  | succ k ih => exact Gf.xor_lt _ _ ih (Gf.mul_lt _ _)

theorem Try.infoByte : (Try.prog.info? 5).map (fun i => (i.zero, i.size, i.bytes)) = some (some (.int .u8 0), 1, 1) := by kernel_rfl

/-- The row behind k rounds. -/
def addRow (y x : Nat → Nat) (c k : Nat) (i : Nat) : Value := .int .u8 ((if i < k then y i ^^^ Gf.mul c (x i) else 0 : Nat) : Int)

theorem cell_lt {w : World} {b o : Nat} {v : Value} (h : w.cell? ⟨b, o, none⟩ = some v) : b < w.heap.size := by
  by_cases g : b < w.heap.size
  · exact g
  · exfalso; simp [World.cell?, g] at h
theorem below_drews {B : Nat} {w : World} (n : Nat) : Below B w (w.drewN n) := ⟨rfl, rfl, rfl, Nat.le_refl _, fun _ _ => rfl⟩

theorem addRow_step {w : World} {B t K k : Nat} {y x : Nat → Nat} {c : Nat} (h : w.rowIs B t K (addRow y x c k)) :
    (w.setCell ⟨B, k, none⟩ (.int .u8 ((y k ^^^ Gf.mul c (x k) : Nat) : Int))).rowIs B t K (addRow y x c (k + 1)) := by
  refine (h.set k _).congr fun i _ => ?_
  unfold addRow
  by_cases e : i = k
  · subst e; simp
  · by_cases g : i < k
    · simp [e, g, show i < k + 1 by omega]
    · simp [e, g, show ¬ i < k + 1 by omega]

end Go.Proofs.Ytdlalcbcgdambaa

/-
  put: an eliminated row takes its place.
-/
import Derived.Test.YtdlalcbcgdambaaEli
namespace Go.Proofs.Ytdlalcbcgdambaa
open Go.RowKit Go.Deep

theorem BasisAt.set {w : World} {B R k size : Nat} {S : Nat → Option (Nat → Nat)} (h : BasisAt w B R k size S) (j : Nat) (v : Value) (s : Option (Nat → Nat)) (hv : RowVal w (k + size) v s) (T : Nat → Option (Nat → Nat)) (hT : ∀ i, i < k → T i = if i = j then s else S i) :
    BasisAt (w.setCell ⟨R, j, none⟩ v) B R k size T := by
  have hk : Kept R w (w.setCell ⟨R, j, none⟩ v) := Kept.set w j v
  have ha := h.apart
  have hB : B ≠ R := ha _ _ _ _ h.sz
  refine ⟨h.field.kept hk ha, hk.cell h.sz hB, hk.cell h.rows hB, ?_, h.k1, h.k32, h.s1, h.s64⟩
  obtain ⟨A, hr, hA⟩ := h.room
  refine ⟨_, hr.set j v, fun i hi => ?_⟩
  rw [hT i hi]
  by_cases e : i = j
  · rw [if_pos e, if_pos e]; exact hv.kept hk ha
  · rw [if_neg e, if_neg e]; exact (hA i hi).kept hk ha
theorem BasisAt.congr {w : World} {B R k size : Nat} {S T : Nat → Option (Nat → Nat)} (h : BasisAt w B R k size S) (hT : ∀ i, i < k → T i = S i) : BasisAt w B R k size T := by
  refine ⟨h.field, h.sz, h.rows, ?_, h.k1, h.k32, h.s1, h.s64⟩
  obtain ⟨A, hr, hA⟩ := h.room
  exact ⟨A, hr, fun i hi => by rw [hT i hi]; exact hA i hi⟩

/-- The rows behind j rounds. -/
def putTo (S : Nat → Option (Nat → Nat)) (r : Nat → Nat) (place j : Nat) (i : Nat) : Option (Nat → Nat) := if i < j then (S i).map (fun t => addUp t r (t place)) else S i
/-- The rows once r leads at place. -/
def putS (S : Nat → Option (Nat → Nat)) (r : Nat → Nat) (place : Nat) (i : Nat) : Option (Nat → Nat) := if i = place then some r else (S i).map (fun t => addUp t r (t place))
/-- A row, made to have 1 at its place. -/
def unitRow (r : Nat → Nat) (place : Nat) : Nat → Nat := addUp (fun _ => 0) r (Gf.inv (r place))

theorem zeros_at (w : World) (n : Nat) : BytesAt (w.alloc (.cells (madeCells #[.int .u8 0] n) 5)) (some ⟨w.heap.size, 0, none⟩) n (fun _ => 0) := by
  have hr := World.rowIs_made w (.int .u8 0) n 5
  exact ⟨fun _ => ⟨_, 0, rfl, fun i hi => by rw [Nat.zero_add]; exact hr.cell hi⟩, fun _ _ => by decide⟩

end Go.Proofs.Ytdlalcbcgdambaa

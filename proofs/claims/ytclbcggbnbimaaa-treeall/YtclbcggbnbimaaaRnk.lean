/-
  Package rank.
-/
import Derived.Test.YtclbcggbnbimaaaFcf
import Derived.Test.YtclbcggbnbimaaaWnt
import Derived.Deep.RegionHeld
import Derived.Laws.EntriesVeiled
namespace Go.Proofs.Ytclbcggbnbimaaa
open Go.RowKit Go.Deep


/-- The first of n places that has it, or -1. -/
def First (n : Nat) (p : Nat → Prop) (e : Ending) : Prop := (∃ j : Nat, j < n ∧ p j ∧ (∀ q, q < j → ¬ p q) ∧ e = .returned (.int .i64 (j : Int))) ∨ ((∀ j, j < n → ¬ p j) ∧ e = .returned (.int .i64 (-1)))
/-- Each one's Refs, as they must be in memory. -/
def RefsAll (w : World) (m : Nat) (K : Nat → Fr) (R : Nat → Nat → Int) : Prop := ∀ q, q < m → RefsAt w (K q) (R q)
theorem RefsAll.grew {w w' : World} {m : Nat} {K : Nat → Fr} {R : Nat → Nat → Int} (h : RefsAll w m K R) (hb : Below w.heap.size w w') : RefsAll w' m K R := fun q hq => (h q hq).grew hb
theorem RefsAll.take {w : World} {m k : Nat} {K : Nat → Fr} {R : Nat → Nat → Int} (h : RefsAll w m K R) (hk : k ≤ m) : RefsAll w k K R := fun q hq => h q (by omega)
theorem FrsAt.take {w : World} {a : Option Addr} {m k : Nat} {K : Nat → Fr} (h : FrsAt w a m K) (hk : k ≤ m) : FrsAt w a k K := fun h0 => by
  obtain ⟨b, o, e, hc⟩ := h (by omega)
  exact ⟨b, o, e, fun i hi => hc i (by omega)⟩
/-- Does f hang on v? -/
def has (f : Fr) (r : Nat → Int) (v : Int) : Prop := ∃ j, j < f.n ∧ r j = v

/-- What hangs on v among m: does anybody? -/
def hangs (m : Nat) (K : Nat → Fr) (R : Nat → Nat → Int) (v : Int) : Bool := (List.range m).any fun q => (List.range (K q).n).any fun j => R q j == v
theorem hangs_iff (m : Nat) (K : Nat → Fr) (R : Nat → Nat → Int) (v : Int) : hangs m K R v = true ↔ ∃ j, j < m ∧ has (K j) (R j) v := by
  simp [hangs, has]
/-- The first of m with that ID. -/
def rkFst (m : Nat) (K : Nat → Fr) (v : Int) : Option Nat := (List.range m).find? fun q => ((K q).id : Int) == v
/-- How much that one matters, and whether there is one. -/
def rk (m : Nat) (K : Nat → Fr) (R : Nat → Nat → Int) (v : Int) : Int × Bool :=
  match rkFst m K v with
  | none => (0, false)
  | some j => if (K j).k = 1 then (0, true) else if (K j).k = 2 then (1, true) else if (K j).k = 3 then (if hangs m K R v = true then 2 else 3, true) else (0, false)
theorem rkFst_some {m : Nat} {K : Nat → Fr} {v : Int} {j : Nat} (h1 : j < m) (h2 : ((K j).id : Int) = v) (h3 : ∀ q, q < j → ¬ ((K q).id : Int) = v) : rkFst m K v = some j := by
  unfold rkFst
  rw [List.find?_range_eq_some]
  refine ⟨by simp [h2], by simpa using h1, fun q hq => ?_⟩
  simpa using h3 q hq
theorem rkFst_none {m : Nat} {K : Nat → Fr} {v : Int} (h : ∀ q, q < m → ¬ ((K q).id : Int) = v) : rkFst m K v = none := by
  unfold rkFst
  rw [List.find?_range_eq_none]
  intro q hq
  simpa using h q hq
/-- What Of answers. -/
def RankIs (w : World) (m : Nat) (K : Nat → Fr) (R : Nat → Nat → Int) (v : Int) (e : Ending) (w' : World) : Prop := e = .returned (.tuple #[.int .i64 (rk m K R v).1, .bool (rk m K R v).2]) ∧ Below w.heap.size w w'

/-- What is held while a rank is found. -/
structure Ranking (w : World) (B : Nat) (v : Int) (a : Option Addr) (m : Nat) (K : Nat → Fr) (R : Nat → Nat → Int) (W : World) : Prop where
  id : W.cell? ⟨B, 0, none⟩ = some (.int .u32 v)
  frs : FrsAt W a m K
  refs : RefsAll W m K R
  bel : Below w.heap.size w W
theorem Ranking.grew {w W W' : World} {B : Nat} {v : Int} {a : Option Addr} {m : Nat} {K : Nat → Fr} {R : Nat → Nat → Int} (h : Ranking w B v a m K R W) (hb : Below W.heap.size W W') : Ranking w B v a m K R W' :=
  ⟨(hb.cell (p := ⟨B, 0, none⟩) (cell_lt h.id)).trans h.id, h.frs.grew hb, h.refs.grew hb, h.bel.trans (hb.mono h.bel.size)⟩

theorem fst_some {m : Nat} {K : Nat → Fr} {v : Int} {j : Nat} (h : rkFst m K v = some j) : j < m ∧ ((K j).id : Int) = v ∧ ∀ q, q < j → ¬ ((K q).id : Int) = v := by
  unfold rkFst at h
  rw [List.find?_range_eq_some] at h
  obtain ⟨h1, h2, h3⟩ := h
  exact ⟨by simpa using h2, by simpa using h1, fun q hq => by simpa using h3 q hq⟩
theorem fst_none {m : Nat} {K : Nat → Fr} {v : Int} (h : rkFst m K v = none) : ∀ q, q < m → ¬ ((K q).id : Int) = v := by
  unfold rkFst at h
  rw [List.find?_range_eq_none] at h
  exact fun q hq => by simpa using h q hq
end Go.Proofs.Ytclbcggbnbimaaa

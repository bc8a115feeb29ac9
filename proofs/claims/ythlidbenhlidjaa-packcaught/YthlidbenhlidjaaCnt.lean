/-
  Package cut: what its panics come to at the face: Count.
-/
import Derived.Test.YthlidbenhlidjaaMem
import Derived.Defers
import Derived.Recover
namespace Go.Proofs.Ythlidbenhlidjaa
open Go.RowKit Go.Deep

/-- What package cut panics with. -/
def noted : List PanicEntry := [{ v := .iface 108 (.agg #[]), recovered := false }]

theorem demand_yes (b : Bool) (w : World) (h : b = true) :
    Calls Try.prog 52 #[.bool b] w fun e w' => e = .returned (.tuple #[]) ∧ w' = w := by
  subst h
  go_enter Try.func52, Try.ntmps52
  go_wp2
  go_end0
  exact ⟨rfl, rfl⟩

theorem demand_no (b : Bool) (w : World) (h : b = false) :
    Calls Try.prog 52 #[.bool b] w fun e w' => e = .panicked noted ∧ w' = w := by
  subst h
  go_enter Try.func52, Try.ntmps52
  go_wp2
  exact ⟨rfl, rfl, rfl⟩

/-- How many symbols of s bytes n bytes have. -/
def cntOf (n s : Nat) : Nat := (n + s - 1) / s
theorem cntOf_cast (n s : Nat) (h : 1 ≤ s) : ((n : Int) + (s : Int) - 1) / (s : Int) = (cntOf n s : Int) := by
  unfold cntOf
  rw [Int.natCast_ediv, show ((n + s - 1 : Nat) : Int) = (n : Int) + (s : Int) - 1 by omega]

set_option maxRecDepth 100000 in
theorem count_yes (n s : Nat) (w : World) (s1 : 1 ≤ s) (s2 : s ≤ 64) (n1 : 1 ≤ n) (n2 : n ≤ 32 * s) :
    Calls Try.prog 51 #[.int .i64 (n : Int), .int .i64 (s : Int)] w fun e w' => e = .returned (.int .i64 (cntOf n s : Int)) ∧ w' = w := by
  go_enter Try.func51, Try.ntmps51
  go_wp2_with fail
  refine (demand_yes _ _ (by simp <;> omega)).mono ?_
  rintro e w1 ⟨rfl, rfl⟩
  go_wp2_with fail
  refine (demand_yes _ _ (by simp <;> omega)).mono ?_
  rintro e w1 ⟨rfl, rfl⟩
  go_wp2
  go_ret
  exact ⟨ret_int (cntOf_cast n s s1), rfl⟩

set_option maxRecDepth 100000 in
theorem count_no (n s : Int) (w : World) (h : ¬ (1 ≤ s ∧ s ≤ 64 ∧ 1 ≤ n ∧ n ≤ 32 * s)) :
    Calls Try.prog 51 #[.int .i64 n, .int .i64 s] w fun e w' => e = .panicked noted ∧ w' = w := by
  by_cases h1 : 1 ≤ s ∧ s ≤ 64
  · obtain ⟨h1, h2⟩ := h1
    go_enter Try.func51, Try.ntmps51
    go_wp2_with fail
    refine (demand_yes _ _ (by simp <;> omega)).mono ?_
    rintro e w1 ⟨rfl, rfl⟩
    go_wp2_with fail
    all_goals
      refine (demand_no _ _ (by simp <;> omega)).mono ?_
      rintro e w1 ⟨rfl, rfl⟩
      go_wp2
      exact ⟨rfl, rfl, rfl⟩
  · go_enter Try.func51, Try.ntmps51
    go_wp2_with fail
    all_goals
      refine (demand_no _ _ (by simp <;> omega)).mono ?_
      rintro e w1 ⟨rfl, rfl⟩
      go_wp2
      exact ⟨rfl, rfl, rfl⟩

/-- Two new variables, at B and B + 1. -/
structure Duo (w : World) (B : Nat) (x y : Value) : Prop where
  fst : w.cell? ⟨B, 0, none⟩ = some x
  fstT : w.frozen? ⟨B, 0, none⟩ = false
  snd : w.cell? ⟨B + 1, 0, none⟩ = some y
  sndT : w.frozen? ⟨B + 1, 0, none⟩ = false
theorem Duo.ne (B : Nat) : (⟨B, 0, none⟩ : Addr) ≠ ⟨B + 1, 0, none⟩ := fun e => by have := (Addr.mk.inj e).1; omega
theorem Duo.grew {w w' : World} {B : Nat} {x y : Value} (h : Duo w B x y) (hb : Below w.heap.size w w') : Duo w' B x y :=
  ⟨(hb.cell (p := ⟨B, 0, none⟩) (cell_lt h.fst)).trans h.fst, (World.frozen?_of_block (a := ⟨B, 0, none⟩) (hb.block B (cell_lt h.fst))).trans h.fstT,
   (hb.cell (p := ⟨B + 1, 0, none⟩) (cell_lt h.snd)).trans h.snd, (World.frozen?_of_block (a := ⟨B + 1, 0, none⟩) (hb.block (B + 1) (cell_lt h.snd))).trans h.sndT⟩
theorem Duo.made (w : World) (x y : Value) (t u : TypeId) : Duo ((w.alloc (.cells #[x] t)).alloc (.cells #[y] u)) w.heap.size x y :=
  ⟨by simp, by simp, by simp, by simp⟩
theorem Duo.set {w : World} {B : Nat} {x y : Value} (h : Duo w B x y) (x' y' : Value) : Duo ((w.setCell ⟨B, 0, none⟩ x').setCell ⟨B + 1, 0, none⟩ y') B x' y' := by
  have e : (w.setCell ⟨B, 0, none⟩ x').cell? ⟨B + 1, 0, none⟩ = some y := (World.cell?_setCell_other _ _ _ _ (Duo.ne B)).trans h.snd
  refine ⟨?_, ?_, World.cell?_setCell_same _ _ _ e, ?_⟩
  · rw [World.cell?_setCell_other _ _ _ _ (Ne.symm (Duo.ne B))]
    exact World.cell?_setCell_same _ _ _ h.fst
  · simpa using h.fstT
  · simpa using h.sndT

end Go.Proofs.Ythlidbenhlidjaa

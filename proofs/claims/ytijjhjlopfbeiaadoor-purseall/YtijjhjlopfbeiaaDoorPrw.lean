/-
  The document's purse: a rank's weight, what is wanted, who is better; what its Split keeps in memory.
-/
import Derived.Test.YtijjhjlopfbeiaaDoorPu1
import Derived.Test.YtijjhjlopfbeiaaDoorMmx
import Derived.Test.YtijjhjlopfbeiaaDoorLad
import Derived.Test.YtijjhjlopfbeiaaDoorIor
namespace Go.Proofs.YtijjhjlopfbeiaaDoor
open Go.RowKit Go.Deep

theorem rwgt_at (r : Int) : ∃ (m : Int) (q : Nat), max r 0 = m ∧ min m 3 = (q : Int) ∧ q < 4 ∧ wtab q = Pu.wgt r := by
  refine ⟨_, (min (max r 0) 3).toNat, rfl, by omega, by omega, ?_⟩
  unfold wtab Pu.wgt
  repeat' split
  all_goals omega
set_option maxRecDepth 100000 in
set_option maxHeartbeats 400000 in
theorem rweight_any (r : Int) (w : World) : Calls Tryd.prog 17 #[.int .i64 r] w fun e w' => e = .returned (.int .i64 (Pu.wgt r)) ∧ Below w.heap.size w w' := by
  obtain ⟨m, q, hm, hq, h4, hw⟩ := rwgt_at r
  have r1 := fun ts ty W => max_run ts ty r 0 m W hm
  have r2 := fun ts ty W => min_run ts ty m 3 (q : Int) W hq
  obtain ⟨S, hS⟩ : ∃ S, w.heap.size = S := ⟨_, rfl⟩
  obtain ⟨x0, e0⟩ : ∃ x, w.alloc (.cells #[.int .i64 8, .int .i64 4, .int .i64 2, .int .i64 1] 3) = x := ⟨_, rfl⟩
  have HB : Hid (Below S w x0) := by rw [← e0, ← hS]; exact (Below.refl _ _).alloc (Nat.le_refl _) _
  have ct : x0.cell? ⟨S, q, none⟩ = some (.int .i64 (wtab q)) := by
    rw [← e0, ← hS, World.cell?_alloc_at _ _ _ _ rfl]
    have : q = 0 ∨ q = 1 ∨ q = 2 ∨ q = 3 := by omega
    rcases this with rfl | rfl | rfl | rfl <;> rfl
  rw [← hw, hS]
  generalize wtab q = v at *
  have i4 : (q : Int) < 4 := by omega
  clear hm hq hw
  go_enter Tryd.func17, Tryd.ntmps17
  go_wp2
  go_ret
  exact ⟨rfl, HB.out⟩
set_option maxRecDepth 100000 in
set_option maxHeartbeats 400000 in
theorem rwant_any (a : Wt) (w : World) : Calls Tryd.prog 18 #[.agg #[.int .u32 a.id, .int .i64 a.r, .int .i64 a.b]] w fun e w' => e = .returned (.int .i64 (Pu.bnd a.b)) ∧ Below w.heap.size w w' := by
  obtain ⟨m, hm⟩ : ∃ m, max a.b 0 = m := ⟨_, rfl⟩
  obtain ⟨q, hq⟩ : ∃ q, min m 65536 = q := ⟨_, rfl⟩
  have r1 := fun ts ty W => max_run ts ty a.b 0 m W hm
  have r2 := fun ts ty W => min_run ts ty m 65536 q W hq
  have e : Pu.bnd a.b = q := by unfold Pu.bnd; rw [hm, hq]
  obtain ⟨S, hS⟩ : ∃ S, w.heap.size = S := ⟨_, rfl⟩
  obtain ⟨x0, e0⟩ : ∃ x, w.alloc (.cells #[.int .u32 a.id, .int .i64 a.r, .int .i64 a.b] 30) = x := ⟨_, rfl⟩
  have HB : Hid (Below S w x0) := by rw [← e0, ← hS]; exact (Below.refl _ _).alloc (Nat.le_refl _) _
  have A0 : WtAt x0 S a := by rw [← e0, ← hS]; exact WtAt.made w _ a
  have c2 := A0.c2
  rw [e, hS]
  clear hm hq e A0
  go_enter Tryd.func18, Tryd.ntmps18
  go_wp2
  go_ret
  exact ⟨rfl, HB.out⟩
set_option maxRecDepth 100000 in
set_option maxHeartbeats 1000000 in
theorem rbetter_any (K : Nat → Wt) (i k : Nat) (w : World) : Calls Tryd.prog 19 #[.agg #[.int .u32 (K i).id, .int .i64 (K i).r, .int .i64 (K i).b], .agg #[.int .u32 (K k).id, .int .i64 (K k).r, .int .i64 (K k).b], .int .i64 (i : Int), .int .i64 (k : Int)] w
    fun e w' => e = .returned (.bool (decide (Pu.lt K i k))) ∧ Below w.heap.size w w' := by
  obtain ⟨x0, e0⟩ : ∃ x, w.alloc (.cells #[.int .u32 (K i).id, .int .i64 (K i).r, .int .i64 (K i).b] 30) = x := ⟨_, rfl⟩
  obtain ⟨x1, e1⟩ : ∃ x, x0.alloc (.cells #[.int .u32 (K k).id, .int .i64 (K k).r, .int .i64 (K k).b] 30) = x := ⟨_, rfl⟩
  have B0 : Below w.heap.size w x0 := by rw [← e0]; exact (Below.refl _ _).alloc (Nat.le_refl _) _
  have B1 : Below x0.heap.size x0 x1 := by rw [← e1]; exact (Below.refl _ _).alloc (Nat.le_refl _) _
  have A0 : WtAt x0 w.heap.size (K i) := by rw [← e0]; exact WtAt.made w _ (K i)
  have A1 : WtAt x1 x0.heap.size (K k) := by rw [← e1]; exact WtAt.made x0 _ (K k)
  have HB : Hid (Below w.heap.size w x1) := B0.trans (B1.mono B0.size)
  obtain ⟨q0, q1, q2⟩ := A0.grew B1
  obtain ⟨r0, r1, r2⟩ := A1
  clear B0 B1
  by_cases h1 : (K i).r = (K k).r
  · have j1 : ((K i).r != (K k).r) = false := by simp [h1]
    by_cases h2 : (K i).id = (K k).id
    · have j2 : ((K i).id != (K k).id) = false := by simp [h2]
      have W : Hid (decide (Pu.lt K i k) = decide ((i : Int) < (k : Int))) := decide_eq_decide.2 (by unfold Pu.lt; omega)
      clear h1 h2
      go_enter Tryd.func19, Tryd.ntmps19
      go_wp2
      go_ret
      exact ⟨by rw [W.out]; simp, HB.out⟩
    · have j2 : ((K i).id != (K k).id) = true := by simp [h2]
      have W : Hid (decide (Pu.lt K i k) = decide ((K i).id < (K k).id)) := decide_eq_decide.2 (by unfold Pu.lt; omega)
      clear h1 h2
      go_enter Tryd.func19, Tryd.ntmps19
      go_wp2
      go_ret
      exact ⟨by rw [W.out]; rfl, HB.out⟩
  · have j1 : ((K i).r != (K k).r) = true := by simp [h1]
    have W : Hid (decide (Pu.lt K i k) = decide ((K i).r < (K k).r)) := decide_eq_decide.2 (by unfold Pu.lt; omega)
    clear h1
    go_enter Tryd.func19, Tryd.ntmps19
    go_wp2
    go_ret
    exact ⟨by rw [W.out]; rfl, HB.out⟩
end Go.Proofs.YtijjhjlopfbeiaaDoor

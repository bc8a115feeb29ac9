/-
  The items of the closed statement: what they come to. No program.
-/
import Derived.Test.YtaikkoijoolhkaaPpl
import Derived.Test.YtaikkoijoolhkaaPwf
import Derived.Test.YtaikkoijoolhkaaPc5
namespace Go.Proofs.Ytaikkoijoolhkaa
open Go.RowKit Go.Deep

def fit (i : Nat) : It := ⟨i % 3, (i : Int), 2 - (i : Int) % 3, 100, (i : Int)⟩
theorem pst_none {f : Nat} {x : List It × List It × Int} {a : It} (ha : a.b = 100) (hn : x.2.2 < 100) : pst (hold f) x a = (x.1, x.2.1 ++ [a], (pst (hold f) x a).2.2) ∧ (pst (hold f) x a).2.2 < 100 := by
  have hh : ∃ m, hold f x.2.2 a = (false, m) ∧ m < 100 := by
    unfold hold
    by_cases h : a.f = f
    · exact ⟨0, by rw [if_pos h, if_neg (by omega)], by decide⟩
    · exact ⟨x.2.2, if_neg h, hn⟩
  obtain ⟨m, h1, h2⟩ := hh
  unfold pst
  rw [h1]
  exact ⟨rfl, h2⟩
theorem fold_none {f : Nat} : ∀ (l : List It) (x : List It × List It × Int), (∀ a, a ∈ l → a.b = 100) → x.2.2 < 100 → (l.foldl (pst (hold f)) x).1 = x.1 ∧ (l.foldl (pst (hold f)) x).2.1 = x.2.1 ++ l := by
  intro l
  induction l with
  | nil => intro x _ _; simp
  | cons a l ih =>
    intro x hl hx
    rw [List.foldl_cons]
    obtain ⟨e, h2⟩ := pst_none (f := f) (hl a (by simp)) hx
    obtain ⟨h3, h4⟩ := ih (pst (hold f) x a) (fun b hb => hl b (by simp [hb])) h2
    rw [h3, h4, e]
    exact ⟨rfl, by simp⟩
theorem hold_none {f : Nat} {n : Int} {l : List It} (hl : ∀ a, a ∈ l → a.b = 100) (hn : n < 100) : (prt (hold f) n l).1 = [] ∧ (prt (hold f) n l).2.1 = l := by
  obtain ⟨h1, h2⟩ := fold_none (f := f) l ([], [], n) hl hn
  exact ⟨h1, by rw [prt, h2]; rfl⟩
/-- All that waits, first; the first nine, and the others. -/
def fit9 : List It := items fit 9
def fitr : List It := (List.range 1991).map fun i => fit (9 + i)
theorem fit_parts : items fit 2000 = fit9 ++ fitr := by
  unfold items fit9 fitr items
  have : List.range 2000 = List.range 9 ++ (List.range 1991).map (9 + ·) := List.range_add (n := 9) (m := 1991)
  rw [this, List.map_append, List.map_map]
  rfl
theorem fit_100 {n : Nat} : ∀ a, a ∈ items fit n → a.b = 100 := fun a ha => by
  obtain ⟨i, -, rfl⟩ := List.mem_map.1 ha
  rfl
theorem fitr_100 : ∀ a, a ∈ fitr → a.b = 100 ∧ a.f < 3 := fun a ha => by
  obtain ⟨i, -, rfl⟩ := List.mem_map.1 ha
  exact ⟨rfl, Nat.mod_lt _ (by decide)⟩
/-- Without the two that were taken. -/
def fit7 : List It := [fit 0, fit 1, fit 3, fit 4, fit 6, fit 7, fit 8]
def fq1 : List It := fit7 ++ fitr
theorem take_250 : (prt (hold 2) 250 (items fit 2000)).1.length = 2 ∧ (prt (hold 2) 250 (items fit 2000)).2.1 = fq1 := by
  rw [fit_parts]
  unfold prt
  rw [List.foldl_append]
  have e : fit9.foldl (pst (hold 2)) ([], [], 250) = ([fit 2, fit 5], fit7, 0) := by decide +kernel
  rw [e]
  obtain ⟨h1, h2⟩ := fold_none (f := 2) fitr ([fit 2, fit 5], fit7, 0) (fun a ha => (fitr_100 a ha).1) (by decide)
  rw [h1, h2]
  exact ⟨rfl, rfl⟩
theorem fq1_100 : ∀ a, a ∈ fq1 → a.b = 100 := fun a ha => by
  rcases List.mem_append.1 ha with ha | ha
  · unfold fit7 at ha
    simp only [List.mem_cons, List.not_mem_nil, or_false] at ha
    rcases ha with rfl | rfl | rfl | rfl | rfl | rfl | rfl <;> rfl
  · exact (fitr_100 a ha).1
def fq2 : List It := fq1.map (ranked 1 7)
theorem fq1_count : count 1 fq1 = 667 := by decide +kernel
def fq3 : List It := fq2.filter fun a => !decide (a.f = 0)
theorem fq2_drop : (prt (whose 0) 0 fq2).1.length = 667 ∧ (prt (whose 0) 0 fq2).2.1 = fq3 := by
  rw [prt_whose]
  exact ⟨by decide +kernel, rfl⟩
theorem fq3_late : (prt (late 10) 0 fq3).1.length = 5 ∧ (prt (late 10) 0 fq3).2.1.length = 1326 := by
  rw [prt_late]
  exact ⟨by decide +kernel, by decide +kernel⟩
/-- What three frames want. -/
theorem three_step (m : Nat) (x y z : Int) : [fit (3 * m), fit (3 * m + 1), fit (3 * m + 2)].foldl wadd [⟨0, 2, x⟩, ⟨1, 1, y⟩, ⟨2, 0, z⟩] = [⟨0, 2, min (x + 100) 65536⟩, ⟨1, 1, min (y + 100) 65536⟩, ⟨2, 0, min (z + 100) 65536⟩] := by
  have f0 : fit (3 * m) = ⟨0, (3 * m : Nat), 2, 100, (3 * m : Nat)⟩ := by
    unfold fit
    rw [show 3 * m % 3 = 0 by omega, show 2 - ((3 * m : Nat) : Int) % 3 = 2 by omega]
  have f1 : fit (3 * m + 1) = ⟨1, (3 * m + 1 : Nat), 1, 100, (3 * m + 1 : Nat)⟩ := by
    unfold fit
    rw [show (3 * m + 1) % 3 = 1 by omega, show 2 - ((3 * m + 1 : Nat) : Int) % 3 = 1 by omega]
  have f2 : fit (3 * m + 2) = ⟨2, (3 * m + 2 : Nat), 0, 100, (3 * m + 2 : Nat)⟩ := by
    unfold fit
    rw [show (3 * m + 2) % 3 = 2 by omega, show 2 - ((3 * m + 2 : Nat) : Int) % 3 = 0 by omega]
  rw [f0, f1, f2]
  rfl
theorem three_all : ∀ m : Nat, wfold (items fit (3 * (m + 1))) = [⟨0, 2, min (100 * ((m : Int) + 1)) 65536⟩, ⟨1, 1, min (100 * ((m : Int) + 1)) 65536⟩, ⟨2, 0, min (100 * ((m : Int) + 1)) 65536⟩]
  | 0 => by decide +kernel
  | m + 1 => by
    have e : items fit (3 * (m + 1 + 1)) = items fit (3 * (m + 1)) ++ [fit (3 * (m + 1)), fit (3 * (m + 1) + 1), fit (3 * (m + 1) + 2)] := by
      rw [show 3 * (m + 1 + 1) = 3 * (m + 1) + 1 + 1 + 1 by omega, items_next, items_next, items_next]
      simp
    unfold wfold
    rw [e, List.foldl_append]
    have h := three_all m
    unfold wfold at h
    rw [h, three_step]
    have : min (min (100 * ((m : Int) + 1)) 65536 + 100) 65536 = min (100 * (((m + 1 : Nat) : Int) + 1)) 65536 := by omega
    rw [this]
theorem wants_2000 : wfold (items fit 2000) = [⟨0, 2, 65536⟩, ⟨1, 1, 65536⟩, ⟨2, 0, 65536⟩] := by
  have e : items fit 2000 = items fit (3 * (665 + 1)) ++ [fit 1998, fit 1999] := by
    rw [show (2000 : Nat) = 3 * (665 + 1) + 1 + 1 by omega, items_next, items_next]
    simp
  unfold wfold
  rw [e, List.foldl_append]
  have h := three_all 665
  unfold wfold at h
  rw [h]
  decide +kernel
theorem told_three {x y z : Int} {s : List Wn} (h : Told [⟨0, 2, x⟩, ⟨1, 1, y⟩, ⟨2, 0, z⟩] s) : s = [⟨2, 0, z⟩, ⟨1, 1, y⟩, ⟨0, 2, x⟩] := by
  refine h.one ⟨?_, ?_⟩ (by simp)
  · exact (List.reverse_perm [(⟨0, 2, x⟩ : Wn), ⟨1, 1, y⟩, ⟨2, 0, z⟩])
  · simp [Wn.lt]
theorem keep_three : ∀ (l : List It) (x y z : Int), (∀ a, a ∈ l → a.f < 3) → ∃ x' y' z', l.foldl wadd [⟨0, 2, x⟩, ⟨1, 7, y⟩, ⟨2, 0, z⟩] = [⟨0, 2, x'⟩, ⟨1, 7, y'⟩, ⟨2, 0, z'⟩] := by
  intro l
  induction l with
  | nil => intro x y z _; exact ⟨x, y, z, rfl⟩
  | cons a l ih =>
    intro x y z hl
    rw [List.foldl_cons]
    have ha := hl a (by simp)
    have hr := fun b hb => hl b (List.mem_cons_of_mem _ hb)
    obtain ⟨f, s, r, b, d⟩ := a
    have hf : f = 0 ∨ f = 1 ∨ f = 2 := by have : f < 3 := ha; omega
    rcases hf with rfl | rfl | rfl
    · exact ih (min (x + b) 65536) y z hr
    · exact ih x (min (y + b) 65536) z hr
    · exact ih x y (min (z + b) 65536) hr
theorem wants_fq2 : ∃ x y z, wfold fq2 = [⟨0, 2, x⟩, ⟨1, 7, y⟩, ⟨2, 0, z⟩] := by
  have e : fq2 = fit7.map (ranked 1 7) ++ fitr.map (ranked 1 7) := by unfold fq2 fq1; rw [List.map_append]
  unfold wfold
  rw [e, List.foldl_append]
  have h : (fit7.map (ranked 1 7)).foldl wadd [] = [⟨0, 2, 300⟩, ⟨1, 7, 300⟩, ⟨2, 0, 100⟩] := by decide +kernel
  rw [h]
  refine keep_three _ _ _ _ fun a ha => ?_
  obtain ⟨c, hc, rfl⟩ := List.mem_map.1 ha
  have := (fitr_100 c hc).2
  unfold ranked
  split <;> exact this
theorem told_fq2 {x y z : Int} {s : List Wn} (h : Told [⟨0, 2, x⟩, ⟨1, 7, y⟩, ⟨2, 0, z⟩] s) : s = [⟨2, 0, z⟩, ⟨0, 2, x⟩, ⟨1, 7, y⟩] := by
  refine h.one ⟨?_, ?_⟩ (by simp)
  · have p1 : [(⟨2, 0, z⟩ : Wn), ⟨0, 2, x⟩, ⟨1, 7, y⟩] = [⟨2, 0, z⟩] ++ [⟨0, 2, x⟩, ⟨1, 7, y⟩] := rfl
    rw [p1]
    exact List.perm_append_comm
  · simp [Wn.lt]
end Go.Proofs.Ytaikkoijoolhkaa

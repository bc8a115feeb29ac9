/-
  What came in as a want, by value.
-/
import Derived.Test.YtijjhjlopfbeiaaDoorOpn
import Derived.Test.YtijjhjlopfbeiaaDoorWnt
namespace Go.Proofs.YtijjhjlopfbeiaaDoor
open Go.ChangeShapes Go.WideShapes Go.RowKit Go.Deep

theorem array_three {α : Type} {cs : Array α} (h : cs.size = 3) : ∃ c0 c1 c2, cs = #[c0, c1, c2] := by
  obtain ⟨l⟩ := cs
  match l, h with
  | [c0, c1, c2], _ => exact ⟨c0, c1, c2, rfl⟩

section
variable {H : Type} {enc : TypeId × Value → H} {w : World}

/-- A number that came in. -/
theorem part_wt {P : Program} {t : TypeId} {k : IntKind} {m : Nat} {v : Value} {y : DataW H × List MemPlace} (ht : P.underlying t = some (.int k)) (h : DataW.trod enc P w 0 (fun _ => true) true m t [v] = some y) : ∃ z : Int, v = .int k z := by
  obtain ⟨z, e, -, -⟩ := DataW.trod_int ht h
  simp at e
  exact ⟨z, e⟩

set_option maxRecDepth 100000 in
theorem open_want {r : Reach} {b0 : Nat} {v : Value} {d : DataW H} {ps : List MemPlace} (hval : Value.okWide Tryd.prog w r b0 30 v) (h : DataW.Trod enc Tryd.prog w 0 (fun _ => true) true 30 v d ps) :
    ∃ a : Wt, v = a.val := by
  obtain ⟨cs, rfl, hsz⟩ := okWide_struct Tryd.underlying30 hval
  have hC : Tryd.prog.cellsOf 30 = 3 := by kernel_rfl
  rw [hC] at hsz
  obtain ⟨c0, c1, c2, rfl⟩ := array_three hsz
  obtain ⟨fuel, hf⟩ := h
  obtain ⟨xs, m, -, -, -, hl, hx⟩ := DataW.trod_struct Tryd.underlying30 hf
  have hl : xs.length = 3 := hl
  have h0 := hx 0 _ rfl
  have h1 := hx 1 _ rfl
  have h2 := hx 2 _ rfl
  rw [List.getElem?_eq_getElem (by omega)] at h0 h1 h2
  have h0 : DataW.trod enc Tryd.prog w 0 (fun _ => true) true m 28 [c0] = some xs[0] := h0
  have h1 : DataW.trod enc Tryd.prog w 0 (fun _ => true) true m 3 [c1] = some xs[1] := h1
  have h2 : DataW.trod enc Tryd.prog w 0 (fun _ => true) true m 3 [c2] = some xs[2] := h2
  obtain ⟨i, rfl⟩ := part_wt Tryd.underlying28 h0
  obtain ⟨r, rfl⟩ := part_wt Tryd.underlying3 h1
  obtain ⟨b, rfl⟩ := part_wt Tryd.underlying3 h2
  exact ⟨⟨i, r, b⟩, rfl⟩
end
end Go.Proofs.YtijjhjlopfbeiaaDoor

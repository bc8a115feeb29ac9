/-
  What came in as a slice of wants: read as wants.
-/
import Derived.Test.YtijjhjlopfbeiaaDoorOpw
import Derived.Test.YtijjhjlopfbeiaaDoorPus
namespace Go.Proofs.YtijjhjlopfbeiaaDoor
open Go.ChangeShapes Go.WideShapes Go.RowKit Go.Deep
section
variable {H : Type} {enc : TypeId × Value → H} {w : World}

theorem list_three {α : Type} {cs : List α} (h : cs.length = 3) : ∃ c0 c1 c2, cs = [c0, c1, c2] := by
  match cs, h with
  | [c0, c1, c2], _ => exact ⟨c0, c1, c2, rfl⟩
set_option maxRecDepth 100000 in
theorem open_wants {a : Option Addr} {len cap : Nat} {d : DataW H} {ps : List MemPlace} (h : DataW.Trod enc Tryd.prog w 0 (fun _ => true) true 22 (.slice a len cap) d ps) :
    ∃ K : Nat → Wt, WtsAt w a len K ∧ len ≤ cap ∧ cap ≤ maxLen := by
  have hC : Tryd.prog.cellsOf 30 = 3 := by kernel_rfl
  obtain ⟨fuel, hf⟩ := h
  rcases open_slice Tryd.underlying22 hf with ⟨hcs, -⟩ | ⟨x, l, c, m, k, D, Pl, hcs, -, hl, hm, hmm, -, hi⟩
  · simp [Value.cells] at hcs
    obtain ⟨rfl, rfl, rfl⟩ := hcs
    exact ⟨fun _ => ⟨0, 0, 0⟩, fun h => absurd h (by omega), by omega, by unfold maxLen; omega⟩
  · simp [Value.cells] at hcs
    obtain ⟨rfl, rfl, rfl⟩ := hcs
    simp only [if_true] at hmm
    subst hmm
    have each : ∀ i, i < len → ∃ z : Wt, w.cell? ((x.add (i * 3)).add 0) = some (.int .u32 z.id) ∧ w.cell? ((x.add (i * 3)).add 1) = some (.int .i64 z.r) ∧ w.cell? ((x.add (i * 3)).add 2) = some (.int .i64 z.b) := by
      intro i h0
      obtain ⟨cs', h1, h2⟩ := hi i (by omega)
      rw [hC] at h1
      obtain ⟨-, h4, h5⟩ := World.cells?_some h1
      obtain ⟨c0, c1, c2, rfl⟩ := list_three h4
      obtain ⟨xs, m, -, -, -, hl, hx⟩ := DataW.trod_struct Tryd.underlying30 h2
      have hl : xs.length = 3 := hl
      have g0 := hx 0 _ rfl
      have g1 := hx 1 _ rfl
      have g2 := hx 2 _ rfl
      rw [List.getElem?_eq_getElem (by omega)] at g0 g1 g2
      have g0 : DataW.trod enc Tryd.prog w 0 (fun _ => true) true m 28 [c0] = some xs[0] := g0
      have g1 : DataW.trod enc Tryd.prog w 0 (fun _ => true) true m 3 [c1] = some xs[1] := g1
      have g2 : DataW.trod enc Tryd.prog w 0 (fun _ => true) true m 3 [c2] = some xs[2] := g2
      obtain ⟨i', rfl⟩ := part_wt Tryd.underlying28 g0
      obtain ⟨r, rfl⟩ := part_wt Tryd.underlying3 g1
      obtain ⟨b, rfl⟩ := part_wt Tryd.underlying3 g2
      exact ⟨⟨i', r, b⟩, h5 0 (by omega), h5 1 (by omega), h5 2 (by omega)⟩
    obtain ⟨z, hz⟩ : ∃ z : Nat → Wt, ∀ i, i < len → (w.cell? ((x.add (i * 3)).add 0) = some (.int .u32 (z i).id) ∧ w.cell? ((x.add (i * 3)).add 1) = some (.int .i64 (z i).r) ∧ w.cell? ((x.add (i * 3)).add 2) = some (.int .i64 (z i).b)) := choose_lt each
    refine ⟨z, fun h0 => ?_, hl, hm⟩
    have hs := (hz 0 h0).1
    have hx : x.spot = none := addr_plain (w := w) (x := x) hs
    obtain ⟨b, o, s⟩ := x
    simp only at hx
    subst hx
    refine ⟨b, o, rfl, fun i h1 => ?_⟩
    have := hz i h1
    simp only [add_add_plain, ← Nat.add_assoc, Nat.add_zero] at this
    exact this
end
end Go.Proofs.YtijjhjlopfbeiaaDoor

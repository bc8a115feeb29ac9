/-
  What came in as a slice of deeds: read as deeds.
-/
import Derived.Test.YtaikkoijoolhkaaOpn
import Derived.Test.YtaikkoijoolhkaaItm
namespace Go.Proofs.Ytaikkoijoolhkaa
open Go.ChangeShapes Go.WideShapes Go.RowKit Go.Deep

/-- A deed: its kind, its item (whose frame is any number), how much, when. -/
structure Dd where
  k : Int
  f : Int
  s : Int
  r : Int
  b : Int
  d : Int
  m : Int
  t : Int
deriving Inhabited
/-- The slice's address a leads to n deeds: the i-th is K i. -/
def DdsAt (w : World) (a : Option Addr) (n : Nat) (K : Nat → Dd) : Prop :=
  0 < n → ∃ b o, a = some ⟨b, o, none⟩ ∧ ∀ i, i < n → w.cell? ⟨b, o + i * 8, none⟩ = some (.int .i64 (K i).k) ∧ w.cell? ⟨b, o + i * 8 + 1, none⟩ = some (.int .u32 (K i).f) ∧ w.cell? ⟨b, o + i * 8 + 2, none⟩ = some (.int .i64 (K i).s) ∧ w.cell? ⟨b, o + i * 8 + 3, none⟩ = some (.int .i64 (K i).r) ∧
    w.cell? ⟨b, o + i * 8 + 4, none⟩ = some (.int .i64 (K i).b) ∧ w.cell? ⟨b, o + i * 8 + 5, none⟩ = some (.int .i64 (K i).d) ∧ w.cell? ⟨b, o + i * 8 + 6, none⟩ = some (.int .i64 (K i).m) ∧ w.cell? ⟨b, o + i * 8 + 7, none⟩ = some (.int .i64 (K i).t) ∧
    (0 ≤ (K i).f ∧ (K i).f < 4294967296) ∧ (-9223372036854775808 ≤ (K i).m ∧ (K i).m < 9223372036854775808) ∧ (-9223372036854775808 ≤ (K i).k ∧ (K i).k < 9223372036854775808)
theorem DdsAt.below {w w' : World} {a : Option Addr} {n B : Nat} {K : Nat → Dd} (h : DdsAt w a n K) (hb : Below B w w') (hB : w.heap.size ≤ B) : DdsAt w' a n K := fun h0 => by
  obtain ⟨b, o, e, hc⟩ := h h0
  have hl := hb.block b (Nat.lt_of_lt_of_le (cell_lt (hc 0 h0).1) hB)
  have q : ∀ j, w'.cell? ⟨b, j, none⟩ = w.cell? ⟨b, j, none⟩ := fun j => World.cell?_of_block (a := ⟨b, j, none⟩) hl
  refine ⟨b, o, e, fun i hi => ?_⟩
  rw [q, q, q, q, q, q, q, q]
  exact hc i hi
section
variable {H : Type} {enc : TypeId × Value → H} {w : World}
theorem list_eight {α : Type} {cs : List α} (h : cs.length = 8) : ∃ c0 c1 c2 c3 c4 c5 c6 c7, cs = [c0, c1, c2, c3, c4, c5, c6, c7] := by
  match cs, h with
  | [c0, c1, c2, c3, c4, c5, c6, c7], _ => exact ⟨c0, c1, c2, c3, c4, c5, c6, c7, rfl⟩
/-- A number that came in. -/
theorem part_num {P : Program} {t : TypeId} {k : IntKind} {m : Nat} {v : Value} {y : DataW H × List MemPlace} (ht : P.underlying t = some (.int k)) (h : DataW.trod enc P w 0 (fun _ => true) true m t [v] = some y) : ∃ z : Int, v = .int k z ∧ (Lit.int k z).wf = true := by
  obtain ⟨z, e, -, hw⟩ := DataW.trod_int ht h
  simp at e
  exact ⟨z, e, hw⟩
set_option maxRecDepth 100000 in
theorem open_deeds {a : Option Addr} {len cap : Nat} {d : DataW H} {ps : List MemPlace} (h : DataW.Trod enc Try.prog w 0 (fun _ => true) true 22 (.slice a len cap) d ps) :
    ∃ K : Nat → Dd, DdsAt w a len K ∧ len ≤ cap ∧ cap ≤ maxLen := by
  have hC : Try.prog.cellsOf 34 = 8 := by kernel_rfl
  obtain ⟨fuel, hf⟩ := h
  rcases open_slice Try.underlying22 hf with ⟨hcs, -⟩ | ⟨x, l, c, m, k, D, Pl, hcs, -, hl, hm, hmm, -, hi⟩
  · simp [Value.cells] at hcs
    obtain ⟨rfl, rfl, rfl⟩ := hcs
    exact ⟨fun _ => ⟨0, 0, 0, 0, 0, 0, 0, 0⟩, fun h => absurd h (by omega), by omega, by unfold maxLen; omega⟩
  · simp [Value.cells] at hcs
    obtain ⟨rfl, rfl, rfl⟩ := hcs
    simp only [if_true] at hmm
    subst hmm
    have each : ∀ i, i < len → ∃ z : Dd, w.cell? ((x.add (i * 8)).add 0) = some (.int .i64 z.k) ∧ w.cell? ((x.add (i * 8)).add 1) = some (.int .u32 z.f) ∧ w.cell? ((x.add (i * 8)).add 2) = some (.int .i64 z.s) ∧ w.cell? ((x.add (i * 8)).add 3) = some (.int .i64 z.r) ∧ w.cell? ((x.add (i * 8)).add 4) = some (.int .i64 z.b) ∧ w.cell? ((x.add (i * 8)).add 5) = some (.int .i64 z.d) ∧ w.cell? ((x.add (i * 8)).add 6) = some (.int .i64 z.m) ∧ w.cell? ((x.add (i * 8)).add 7) = some (.int .i64 z.t) ∧
        (0 ≤ z.f ∧ z.f < 4294967296) ∧ (-9223372036854775808 ≤ z.m ∧ z.m < 9223372036854775808) ∧ (-9223372036854775808 ≤ z.k ∧ z.k < 9223372036854775808) := by
      intro i h0
      obtain ⟨cs', h1, h2⟩ := hi i (by omega)
      rw [hC] at h1
      obtain ⟨-, h4, h5⟩ := World.cells?_some h1
      obtain ⟨c0, c1, c2, c3, c4, c5, c6, c7, rfl⟩ := list_eight h4
      obtain ⟨xs, m, -, -, -, hl, hx⟩ := DataW.trod_struct Try.underlying34 h2
      have hl : xs.length = 4 := hl
      have g0 := hx 0 _ rfl
      have g1 := hx 1 _ rfl
      have g2 := hx 2 _ rfl
      have g3 := hx 3 _ rfl
      rw [List.getElem?_eq_getElem (by omega)] at g0 g1 g2 g3
      have g0 : DataW.trod enc Try.prog w 0 (fun _ => true) true m 3 [c0] = some xs[0] := g0
      have g1 : DataW.trod enc Try.prog w 0 (fun _ => true) true m 32 [c1, c2, c3, c4, c5] = some xs[1] := g1
      have g2 : DataW.trod enc Try.prog w 0 (fun _ => true) true m 3 [c6] = some xs[2] := g2
      have g3 : DataW.trod enc Try.prog w 0 (fun _ => true) true m 2 [c7] = some xs[3] := g3
      obtain ⟨ys, m', -, -, -, hl2, hy⟩ := DataW.trod_struct Try.underlying32 g1
      have hl2 : ys.length = 5 := hl2
      have e0 := hy 0 _ rfl
      have e1 := hy 1 _ rfl
      have e2 := hy 2 _ rfl
      have e3 := hy 3 _ rfl
      have e4 := hy 4 _ rfl
      rw [List.getElem?_eq_getElem (by omega)] at e0 e1 e2 e3 e4
      have e0 : DataW.trod enc Try.prog w 0 (fun _ => true) true m' 30 [c1] = some ys[0] := e0
      have e1 : DataW.trod enc Try.prog w 0 (fun _ => true) true m' 3 [c2] = some ys[1] := e1
      have e2 : DataW.trod enc Try.prog w 0 (fun _ => true) true m' 3 [c3] = some ys[2] := e2
      have e3 : DataW.trod enc Try.prog w 0 (fun _ => true) true m' 3 [c4] = some ys[3] := e3
      have e4 : DataW.trod enc Try.prog w 0 (fun _ => true) true m' 2 [c5] = some ys[4] := e4
      obtain ⟨z0, rfl, w0⟩ := part_num Try.underlying3 g0
      obtain ⟨z1, rfl, w1⟩ := part_num Try.underlying30 e0
      obtain ⟨z2, rfl, -⟩ := part_num Try.underlying3 e1
      obtain ⟨z3, rfl, -⟩ := part_num Try.underlying3 e2
      obtain ⟨z4, rfl, -⟩ := part_num Try.underlying3 e3
      obtain ⟨z5, rfl, -⟩ := part_num Try.underlying2 e4
      obtain ⟨z6, rfl, w6⟩ := part_num Try.underlying3 g2
      obtain ⟨z7, rfl, -⟩ := part_num Try.underlying2 g3
      have b0 := bounds_i64 w0
      have b1 := bounds_u32 w1
      have b6 := bounds_i64 w6
      exact ⟨⟨z0, z1, z2, z3, z4, z5, z6, z7⟩, h5 0 (by omega), h5 1 (by omega), h5 2 (by omega), h5 3 (by omega), h5 4 (by omega), h5 5 (by omega), h5 6 (by omega), h5 7 (by omega), ⟨b1.1, by show z1 < _; omega⟩, ⟨b6.1, by show z6 < _; omega⟩, ⟨b0.1, by show z0 < _; omega⟩⟩
    obtain ⟨z, hz⟩ := choose_lt each
    refine ⟨z, fun h0 => ?_, hl, hm⟩
    have hs := (hz 0 h0).1
    have hx : x.spot = none := addr_plain (w := w) (x := x) hs
    obtain ⟨b, o, s⟩ := x
    simp only at hx
    subst hx
    refine ⟨b, o, rfl, fun i h1 => ?_⟩
    have := hz i h1
    simp only [add_add_plain, ← Nat.add_assoc, Nat.add_zero] at this
    exact this
end
end Go.Proofs.Ytaikkoijoolhkaa

/-
  What came in as a frame by value, as a slice of frames: read as frames.
-/
import Derived.Test.YthlidbenhlidjaaOpn
import Derived.Test.YthlidbenhlidjaaFrm
namespace Go.Proofs.Ythlidbenhlidjaa
open Go.ChangeShapes Go.WideShapes Go.RowKit Go.Deep

/-- A frame that came in: its ID, its Refs. -/
def FrIn (w : World) (f : Fr) (r : Nat → Int) : Prop := f.id < 4294967296 ∧ NumsAt .u32 w f.a f.n r ∧ f.n ≤ f.c ∧ f.c ≤ maxLen
instance : Inhabited Fr := ⟨⟨0, 0, none, 0, 0, 0, 0, 0⟩⟩
section
variable {H : Type} {enc : TypeId × Value → H} {w : World}

theorem open_nums {P : Program} {κ : IntKind} {t e : TypeId} {a : Option Addr} {len cap : Nat} {d : DataW H} {ps : List MemPlace} (ht : P.underlying t = some (.slice e)) (he : P.underlying e = some (.int κ)) (hc : P.cellsOf e = 1)
    (h : DataW.Trod enc P w 0 (fun _ => true) true t (.slice a len cap) d ps) : ∃ z, NumsAt κ w a len z ∧ len ≤ cap ∧ cap ≤ maxLen := by
  obtain ⟨fuel, hf⟩ := h
  rcases open_slice ht hf with ⟨hcs, -⟩ | ⟨x, l, c, m, k, D, Pl, hcs, -, hl, hm, hmm, -, hi⟩
  · simp [Value.cells] at hcs
    obtain ⟨rfl, rfl, rfl⟩ := hcs
    exact ⟨fun _ => 0, fun h => absurd h (by omega), by omega, by unfold maxLen; omega⟩
  · simp [Value.cells] at hcs
    obtain ⟨rfl, rfl, rfl⟩ := hcs
    simp only [if_true] at hmm
    subst hmm
    have each : ∀ i, i < len → ∃ z : Int, w.cell? (x.add i) = some (.int κ z) := by
      intro i h0
      obtain ⟨cs', h1, h2⟩ := hi i (by omega)
      rw [hc, Nat.mul_one] at h1
      obtain ⟨-, -, h5⟩ := World.cells?_some h1
      obtain ⟨z, e1, -, -⟩ := DataW.trod_int he h2
      refine ⟨z, ?_⟩
      have h6 := h5 0 (by omega)
      rw [e1] at h6
      exact h6
    obtain ⟨f, hf⟩ := choose_lt each
    refine ⟨f, fun h0 => ?_, hl, hm⟩
    have hs := hf 0 h0
    have hx : x.spot = none := addr_plain (w := w) (x := x) hs
    obtain ⟨b, o, s⟩ := x
    simp only at hx
    subst hx
    refine ⟨b, o, rfl, fun i h1 => ?_⟩
    have := hf i h1
    rwa [show (⟨b, o, none⟩ : Addr).add i = ⟨b, o + i, none⟩ by unfold Addr.add; split <;> simp_all] at this
theorem part_of {P : Program} {t : TypeId} {k : IntKind} {m : Nat} {v : Value} {y : DataW H × List MemPlace} (ht : P.underlying t = some (.int k)) (h : DataW.trod enc P w 0 (fun _ => true) true m t [v] = some y) : ∃ z : Int, v = .int k z ∧ (Lit.int k z).wf = true := by
  obtain ⟨z, e, -, hw⟩ := DataW.trod_int ht h
  simp at e
  exact ⟨z, e, hw⟩
set_option maxRecDepth 100000 in
/-- Six cells that are a frame. -/
theorem open_six {fuel : Nat} {c0 c1 c2 c3 c4 c5 : Value} {y : DataW H × List MemPlace} (hf : DataW.trod enc Try.prog w 0 (fun _ => true) true fuel 25 [c0, c1, c2, c3, c4, c5] = some y) :
    ∃ (f : Fr) (r : Nat → Int), c0 = .int .u32 (f.id : Int) ∧ c1 = .int .i64 f.k ∧ c2 = .slice f.a f.n f.c ∧ c3 = .int .i64 f.s ∧ c4 = .int .i64 f.p ∧ c5 = .int .i64 f.d ∧ FrIn w f r := by
  obtain ⟨xs, m, -, -, -, hl, hx⟩ := DataW.trod_struct Try.underlying25 hf
  have hl : xs.length = 6 := hl
  have h0 := hx 0 _ rfl
  have h1 := hx 1 _ rfl
  have h2 := hx 2 _ rfl
  have h3 := hx 3 _ rfl
  have h4 := hx 4 _ rfl
  have h5 := hx 5 _ rfl
  rw [List.getElem?_eq_getElem (by omega)] at h0 h1 h2 h3 h4 h5
  have g0 : DataW.trod enc Try.prog w 0 (fun _ => true) true m 22 [c0] = some xs[0] := h0
  have g1 : DataW.trod enc Try.prog w 0 (fun _ => true) true m 3 [c1] = some xs[1] := h1
  have g2 : DataW.trod enc Try.prog w 0 (fun _ => true) true m 23 [c2] = some xs[2] := h2
  have g3 : DataW.trod enc Try.prog w 0 (fun _ => true) true m 3 [c3] = some xs[3] := h3
  have g4 : DataW.trod enc Try.prog w 0 (fun _ => true) true m 2 [c4] = some xs[4] := h4
  have g5 : DataW.trod enc Try.prog w 0 (fun _ => true) true m 2 [c5] = some xs[5] := h5
  clear h0 h1 h2 h3 h4 h5 hx
  obtain ⟨i, rfl, w0⟩ := part_of Try.underlying22 g0
  obtain ⟨k, rfl, w1⟩ := part_of Try.underlying3 g1
  obtain ⟨s, rfl, w3⟩ := part_of Try.underlying3 g3
  obtain ⟨p, rfl, w4⟩ := part_of Try.underlying2 g4
  obtain ⟨d, rfl, w5⟩ := part_of Try.underlying2 g5
  have k0 := bounds_u32 w0
  obtain ⟨i, rfl⟩ : ∃ n : Nat, i = n := ⟨i.toNat, by omega⟩
  have hs : ∃ a n c, c2 = .slice a n c := by
    rcases open_slice Try.underlying23 g2 with ⟨e, -⟩ | ⟨x, l, c, _, _, _, _, e, -⟩
    · simp at e; exact ⟨_, _, _, e⟩
    · simp at e; exact ⟨_, _, _, e⟩
  obtain ⟨a, n, c, rfl⟩ := hs
  obtain ⟨r, t1, t2, t3⟩ := open_nums (a := a) (len := n) (cap := c) (d := (xs[2]).1) (ps := (xs[2]).2) Try.underlying23 Try.underlying22 (by kernel_rfl) ⟨m, g2⟩
  exact ⟨⟨i, k, a, n, c, s, p, d⟩, r, rfl, rfl, rfl, rfl, rfl, rfl, by simp only; omega, t1, t2, t3⟩
theorem list_six {α : Type} {cs : List α} (h : cs.length = 6) : ∃ c0 c1 c2 c3 c4 c5, cs = [c0, c1, c2, c3, c4, c5] := by
  match cs, h with
  | [c0, c1, c2, c3, c4, c5], _ => exact ⟨c0, c1, c2, c3, c4, c5, rfl⟩
set_option maxRecDepth 100000 in
theorem open_frame {rr : Reach} {b0 : Nat} {v : Value} {d : DataW H} {ps : List MemPlace} (hval : Value.okWide Try.prog w rr b0 25 v) (h : DataW.Trod enc Try.prog w 0 (fun _ => true) true 25 v d ps) :
    ∃ (f : Fr) (r : Nat → Int), v = f.val ∧ FrIn w f r := by
  obtain ⟨cs, rfl, hsz⟩ := okWide_struct Try.underlying25 hval
  have hC : Try.prog.cellsOf 25 = 6 := by kernel_rfl
  rw [hC] at hsz
  obtain ⟨l⟩ := cs
  obtain ⟨c0, c1, c2, c3, c4, c5, rfl⟩ := list_six (cs := l) hsz
  obtain ⟨fuel, hf⟩ := h
  obtain ⟨f, r, rfl, rfl, rfl, rfl, rfl, rfl, hfr⟩ := open_six (w := w) hf
  exact ⟨f, r, rfl, hfr⟩
set_option maxRecDepth 100000 in
theorem open_frames {a : Option Addr} {len cap : Nat} {d : DataW H} {ps : List MemPlace} (h : DataW.Trod enc Try.prog w 0 (fun _ => true) true 67 (.slice a len cap) d ps) :
    ∃ (K : Nat → Fr) (R : Nat → Nat → Int), FrsAt w a len K ∧ (∀ i, i < len → FrIn w (K i) (R i)) ∧ len ≤ cap ∧ cap ≤ maxLen := by
  have hC : Try.prog.cellsOf 25 = 6 := by kernel_rfl
  obtain ⟨fuel, hf⟩ := h
  rcases open_slice Try.underlying67 hf with ⟨hcs, -⟩ | ⟨x, l, c, m, k, D, Pl, hcs, -, hl, hm, hmm, -, hi⟩
  · simp [Value.cells] at hcs
    obtain ⟨rfl, rfl, rfl⟩ := hcs
    exact ⟨fun _ => ⟨0, 0, none, 0, 0, 0, 0, 0⟩, fun _ _ => 0, fun h => absurd h (by omega), fun _ h => absurd h (by omega), by omega, by unfold maxLen; omega⟩
  · simp [Value.cells] at hcs
    obtain ⟨rfl, rfl, rfl⟩ := hcs
    simp only [if_true] at hmm
    subst hmm
    have each : ∀ i, i < len → ∃ z : Fr × (Nat → Int), (w.cell? ((x.add (i * 6)).add 0) = some (.int .u32 (z.1.id : Int)) ∧ w.cell? ((x.add (i * 6)).add 1) = some (.int .i64 z.1.k) ∧ w.cell? ((x.add (i * 6)).add 2) = some (.slice z.1.a z.1.n z.1.c) ∧
        w.cell? ((x.add (i * 6)).add 3) = some (.int .i64 z.1.s) ∧ w.cell? ((x.add (i * 6)).add 4) = some (.int .i64 z.1.p) ∧ w.cell? ((x.add (i * 6)).add 5) = some (.int .i64 z.1.d)) ∧ FrIn w z.1 z.2 := by
      intro i h0
      obtain ⟨cs', h1, h2⟩ := hi i (by omega)
      rw [hC] at h1
      obtain ⟨-, h4, h5⟩ := World.cells?_some h1
      obtain ⟨c0, c1, c2, c3, c4, c5, rfl⟩ := list_six h4
      obtain ⟨f, r, rfl, rfl, rfl, rfl, rfl, rfl, hfr⟩ := open_six (w := w) h2
      exact ⟨(f, r), ⟨h5 0 (by omega), h5 1 (by omega), h5 2 (by omega), h5 3 (by omega), h5 4 (by omega), h5 5 (by omega)⟩, hfr⟩
    obtain ⟨z, hz⟩ : ∃ z : Nat → Fr × (Nat → Int), ∀ i, i < len → (w.cell? ((x.add (i * 6)).add 0) = some (.int .u32 ((z i).1.id : Int)) ∧ w.cell? ((x.add (i * 6)).add 1) = some (.int .i64 (z i).1.k) ∧ w.cell? ((x.add (i * 6)).add 2) = some (.slice (z i).1.a (z i).1.n (z i).1.c) ∧
        w.cell? ((x.add (i * 6)).add 3) = some (.int .i64 (z i).1.s) ∧ w.cell? ((x.add (i * 6)).add 4) = some (.int .i64 (z i).1.p) ∧ w.cell? ((x.add (i * 6)).add 5) = some (.int .i64 (z i).1.d)) ∧ FrIn w (z i).1 (z i).2 := choose_lt each
    refine ⟨fun i => (z i).1, fun i => (z i).2, fun h0 => ?_, fun i hi => (hz i hi).2, hl, hm⟩
    have hs := (hz 0 h0).1.1
    have hx : x.spot = none := addr_plain (w := w) (x := x) hs
    obtain ⟨b, o, s⟩ := x
    simp only at hx
    subst hx
    refine ⟨b, o, rfl, fun i h1 => ?_⟩
    have := (hz i h1).1
    simp only [add_add_plain, ← Nat.add_assoc, Nat.add_zero] at this
    exact this
end
end Go.Proofs.Ythlidbenhlidjaa

/-
  What came in as a report, by value: read as five numbers.
-/
import Derived.Test.YtmckfcbhkahcmaaOpn
namespace Go.Proofs.Ytmckfcbhkahcmaa
open Go.ChangeShapes Go.WideShapes Go.RowKit Go.Deep

theorem array_five {α : Type} {cs : Array α} (h : cs.size = 5) : ∃ c0 c1 c2 c3 c4, cs = #[c0, c1, c2, c3, c4] := by
  obtain ⟨l⟩ := cs
  match l, h with
  | [c0, c1, c2, c3, c4], _ => exact ⟨c0, c1, c2, c3, c4, rfl⟩

section
variable {H : Type} {enc : TypeId × Value → H} {w : World}

/-- A number that came in. -/
theorem part_num {P : Program} {t : TypeId} {k : IntKind} {m : Nat} {v : Value} {y : DataW H × List MemPlace} (ht : P.underlying t = some (.int k)) (h : DataW.trod enc P w 0 (fun _ => true) true m t [v] = some y) : ∃ z : Int, v = .int k z ∧ (Lit.int k z).wf = true := by
  obtain ⟨z, e, -, hw⟩ := DataW.trod_int ht h
  simp at e
  exact ⟨z, e, hw⟩

set_option maxRecDepth 100000 in
theorem open_report {r : Reach} {b0 : Nat} {v : Value} {d : DataW H} {ps : List MemPlace} (hval : Value.okWide Try.prog w r b0 26 v) (h : DataW.Trod enc Try.prog w 0 (fun _ => true) true 26 v d ps) :
    ∃ (t l g u j : Nat), v = .agg #[.int .u64 (t : Int), .int .u32 (l : Int), .int .u32 (g : Int), .int .u16 (u : Int), .int .u16 (j : Int)] ∧ (t < 18446744073709551616 ∧ l < 4294967296 ∧ g < 4294967296 ∧ u < 65536 ∧ j < 65536) := by
  obtain ⟨cs, rfl, hsz⟩ := okWide_struct Try.underlying26 hval
  have hC : Try.prog.cellsOf 26 = 5 := by kernel_rfl
  rw [hC] at hsz
  obtain ⟨c0, c1, c2, c3, c4, rfl⟩ := array_five hsz
  obtain ⟨fuel, hf⟩ := h
  obtain ⟨xs, m, -, -, -, hl, hx⟩ := DataW.trod_struct Try.underlying26 hf
  have hl : xs.length = 5 := hl
  have h0 := hx 0 _ rfl
  have h1 := hx 1 _ rfl
  have h2 := hx 2 _ rfl
  have h3 := hx 3 _ rfl
  have h4 := hx 4 _ rfl
  rw [List.getElem?_eq_getElem (by omega)] at h0 h1 h2 h3 h4
  have h0 : DataW.trod enc Try.prog w 0 (fun _ => true) true m 22 [c0] = some xs[0] := h0
  have h1 : DataW.trod enc Try.prog w 0 (fun _ => true) true m 23 [c1] = some xs[1] := h1
  have h2 : DataW.trod enc Try.prog w 0 (fun _ => true) true m 23 [c2] = some xs[2] := h2
  have h3 : DataW.trod enc Try.prog w 0 (fun _ => true) true m 24 [c3] = some xs[3] := h3
  have h4 : DataW.trod enc Try.prog w 0 (fun _ => true) true m 24 [c4] = some xs[4] := h4
  obtain ⟨t, rfl, w0⟩ := part_num Try.underlying22 h0
  obtain ⟨l, rfl, w1⟩ := part_num Try.underlying23 h1
  obtain ⟨g, rfl, w2⟩ := part_num Try.underlying23 h2
  obtain ⟨u, rfl, w3⟩ := part_num Try.underlying24 h3
  obtain ⟨j, rfl, w4⟩ := part_num Try.underlying24 h4
  have k0 := bounds_u64 w0
  have k1 := bounds_u32 w1
  have k2 := bounds_u32 w2
  have k3 := bounds_u16 w3
  have k4 := bounds_u16 w4
  obtain ⟨t, rfl⟩ : ∃ n : Nat, t = n := ⟨t.toNat, by omega⟩
  obtain ⟨l, rfl⟩ : ∃ n : Nat, l = n := ⟨l.toNat, by omega⟩
  obtain ⟨g, rfl⟩ : ∃ n : Nat, g = n := ⟨g.toNat, by omega⟩
  obtain ⟨u, rfl⟩ : ∃ n : Nat, u = n := ⟨u.toNat, by omega⟩
  obtain ⟨j, rfl⟩ : ∃ n : Nat, j = n := ⟨j.toNat, by omega⟩
  exact ⟨t, l, g, u, j, rfl, by omega, by omega, by omega, by omega, by omega⟩
end
end Go.Proofs.Ytmckfcbhkahcmaa

/-
  What came in as a symbol's data, by value: read as four numbers and a row of bytes.
-/
import Derived.Test.YtcflaklnafggmaaOpn
namespace Go.Proofs.Ytcflaklnafggmaa
open Go.ChangeShapes Go.WideShapes Go.RowKit Go.Deep

theorem array5 {α : Type} {cs : Array α} (h : cs.size = 5) : ∃ c0 c1 c2 c3 c4, cs = #[c0, c1, c2, c3, c4] := by
  obtain ⟨l⟩ := cs
  match l, h with
  | [c0, c1, c2, c3, c4], _ => exact ⟨c0, c1, c2, c3, c4, rfl⟩

section
variable {H : Type} {enc : TypeId × Value → H} {w : World}

/-- A number that came in, as Nat. -/
theorem part_int {P : Program} {t : TypeId} {k : IntKind} {m : Nat} {v : Value} {y : DataW H × List MemPlace} (ht : P.underlying t = some (.int k)) (h : DataW.trod enc P w 0 (fun _ => true) true m t [v] = some y) : ∃ z : Int, v = .int k z ∧ (Lit.int k z).wf = true := by
  obtain ⟨z, e, -, hw⟩ := DataW.trod_int ht h
  simp at e
  exact ⟨z, e, hw⟩

set_option maxRecDepth 100000 in
theorem open_data {r : Reach} {b0 : Nat} {v : Value} {d : DataW H} {ps : List MemPlace} (hval : Value.okWide Try.prog w r b0 26 v) (h : DataW.Trod enc Try.prog w 0 (fun _ => true) true 26 v d ps) :
    ∃ (s t f y : Nat) (a : Option Addr) (n c : Nat) (x : Nat → Nat), v = .agg #[.int .u16 (s : Int), .int .u16 (t : Int), .int .u32 (f : Int), .int .u16 (y : Int), .slice a n c] ∧ (s < 65536 ∧ t < 65536 ∧ f < 4294967296 ∧ y < 65536 ∧ BytesAt w a n x ∧ n ≤ c ∧ c ≤ maxLen) := by
  obtain ⟨cs, rfl, hsz⟩ := okWide_struct Try.underlying26 hval
  have hC : Try.prog.cellsOf 26 = 5 := by kernel_rfl
  rw [hC] at hsz
  obtain ⟨c0, c1, c2, c3, c4, rfl⟩ := array5 hsz
  obtain ⟨fuel, hf⟩ := h
  obtain ⟨xs, m, -, -, -, hl, hx⟩ := DataW.trod_struct Try.underlying26 hf
  have hl : xs.length = 5 := hl
  have h0 := hx 0 _ rfl
  have h1 := hx 1 _ rfl
  have h2 := hx 2 _ rfl
  have h3 := hx 3 _ rfl
  have h4 := hx 4 _ rfl
  rw [List.getElem?_eq_getElem (by omega)] at h0 h1 h2 h3 h4
  have h0 : DataW.trod enc Try.prog w 0 (fun _ => true) true m 22 [c0] = some xs[0] := h0
  have h1 : DataW.trod enc Try.prog w 0 (fun _ => true) true m 22 [c1] = some xs[1] := h1
  have h2 : DataW.trod enc Try.prog w 0 (fun _ => true) true m 23 [c2] = some xs[2] := h2
  have h3 : DataW.trod enc Try.prog w 0 (fun _ => true) true m 22 [c3] = some xs[3] := h3
  have h4 : DataW.trod enc Try.prog w 0 (fun _ => true) true m 24 [c4] = some xs[4] := h4
  obtain ⟨s, rfl, w0⟩ := part_int Try.underlying22 h0
  obtain ⟨t, rfl, w1⟩ := part_int Try.underlying22 h1
  obtain ⟨f, rfl, w2⟩ := part_int Try.underlying23 h2
  obtain ⟨y, rfl, w3⟩ := part_int Try.underlying22 h3
  have k0 := bounds_u16 w0
  have k1 := bounds_u16 w1
  have k2 := bounds_u32 w2
  have k3 := bounds_u16 w3
  obtain ⟨s, rfl⟩ : ∃ n : Nat, s = n := ⟨s.toNat, by omega⟩
  obtain ⟨t, rfl⟩ : ∃ n : Nat, t = n := ⟨t.toNat, by omega⟩
  obtain ⟨f, rfl⟩ : ∃ n : Nat, f = n := ⟨f.toNat, by omega⟩
  obtain ⟨y, rfl⟩ : ∃ n : Nat, y = n := ⟨y.toNat, by omega⟩
  have hs : ∃ a n c, c4 = .slice a n c := by
    rcases open_slice Try.underlying24 h4 with ⟨e, -⟩ | ⟨x, l, c, _, _, _, _, e, -⟩
    · simp at e; exact ⟨_, _, _, e⟩
    · simp at e; exact ⟨_, _, _, e⟩
  obtain ⟨a, n, c, rfl⟩ := hs
  obtain ⟨x, k4⟩ := open_bytes (a := a) (len := n) (cap := c) (d := (xs[4]).1) (ps := (xs[4]).2) Try.underlying24 Try.underlying5 (by kernel_rfl) ⟨m, h4⟩
  exact ⟨s, t, f, y, a, n, c, x, rfl, by omega, by omega, by omega, by omega, k4⟩
end
end Go.Proofs.Ytcflaklnafggmaa

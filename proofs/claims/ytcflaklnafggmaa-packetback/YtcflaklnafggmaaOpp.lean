/-
  What came in as a packet, by value.
-/
import Derived.Test.YtcflaklnafggmaaOpd
import Derived.Test.YtcflaklnafggmaaPkt
namespace Go.Proofs.Ytcflaklnafggmaa
open Go.ChangeShapes Go.WideShapes Go.RowKit Go.Deep

theorem array13 {α : Type} {cs : Array α} (h : cs.size = 13) : ∃ c0 c1 c2 c3 c4 c5 c6 c7 c8 c9 c10 c11 c12, cs = #[c0, c1, c2, c3, c4, c5, c6, c7, c8, c9, c10, c11, c12] := by
  obtain ⟨l⟩ := cs
  match l, h with
  | [c0, c1, c2, c3, c4, c5, c6, c7, c8, c9, c10, c11, c12], _ => exact ⟨c0, c1, c2, c3, c4, c5, c6, c7, c8, c9, c10, c11, c12, rfl⟩

section
variable {H : Type} {enc : TypeId × Value → H} {w : World}

set_option maxRecDepth 100000 in
theorem data_cells {m0 : Nat} {c0 c1 c2 c3 c4 : Value} {y0 : DataW H × List MemPlace} (h : DataW.trod enc Try.prog w 0 (fun _ => true) true m0 26 [c0, c1, c2, c3, c4] = some y0) :
    ∃ (s t f y : Nat) (a : Option Addr) (n c : Nat) (x : Nat → Nat), (c0 = .int .u16 (s : Int) ∧ c1 = .int .u16 (t : Int) ∧ c2 = .int .u32 (f : Int) ∧ c3 = .int .u16 (y : Int) ∧ c4 = .slice a n c) ∧ s < 65536 ∧ t < 65536 ∧ f < 4294967296 ∧ y < 65536 ∧ BytesAt w a n x ∧ n ≤ c ∧ c ≤ maxLen := by
  obtain ⟨xs, m, -, -, -, hl, hx⟩ := DataW.trod_struct Try.underlying26 h
  have hl : xs.length = 5 := hl
  have h0 := hx 0 _ rfl
  have h1 := hx 1 _ rfl
  have h2 := hx 2 _ rfl
  have h3 := hx 3 _ rfl
  have h4 := hx 4 _ rfl
  rw [List.getElem?_eq_getElem (by omega)] at h0 h1 h2 h3 h4
  have p0 : DataW.trod enc Try.prog w 0 (fun _ => true) true m 22 [c0] = some xs[0] := h0
  have p1 : DataW.trod enc Try.prog w 0 (fun _ => true) true m 22 [c1] = some xs[1] := h1
  have p2 : DataW.trod enc Try.prog w 0 (fun _ => true) true m 23 [c2] = some xs[2] := h2
  have p3 : DataW.trod enc Try.prog w 0 (fun _ => true) true m 22 [c3] = some xs[3] := h3
  have p4 : DataW.trod enc Try.prog w 0 (fun _ => true) true m 24 [c4] = some xs[4] := h4
  clear hx h0 h1 h2 h3 h4
  obtain ⟨s, rfl, w0⟩ := part_int Try.underlying22 p0
  obtain ⟨t, rfl, w1⟩ := part_int Try.underlying22 p1
  obtain ⟨f, rfl, w2⟩ := part_int Try.underlying23 p2
  obtain ⟨y, rfl, w3⟩ := part_int Try.underlying22 p3
  have k0 := bounds_u16 w0
  have k1 := bounds_u16 w1
  have k2 := bounds_u32 w2
  have k3 := bounds_u16 w3
  obtain ⟨s, rfl⟩ : ∃ n : Nat, s = n := ⟨s.toNat, by omega⟩
  obtain ⟨t, rfl⟩ : ∃ n : Nat, t = n := ⟨t.toNat, by omega⟩
  obtain ⟨f, rfl⟩ : ∃ n : Nat, f = n := ⟨f.toNat, by omega⟩
  obtain ⟨y, rfl⟩ : ∃ n : Nat, y = n := ⟨y.toNat, by omega⟩
  have hs : ∃ a n c, c4 = .slice a n c := by
    rcases open_slice Try.underlying24 p4 with ⟨e, -⟩ | ⟨x, l, c, _, _, _, _, e, -⟩
    · simp at e; exact ⟨_, _, _, e⟩
    · simp at e; exact ⟨_, _, _, e⟩
  obtain ⟨a, n, c, rfl⟩ := hs
  obtain ⟨x, k4⟩ := open_bytes (a := a) (len := n) (cap := c) (d := (xs[4]).1) (ps := (xs[4]).2) Try.underlying24 Try.underlying5 (by kernel_rfl) ⟨m, p4⟩
  exact ⟨s, t, f, y, a, n, c, x, ⟨rfl, rfl, rfl, rfl, rfl⟩, by omega, by omega, by omega, by omega, k4⟩

set_option maxRecDepth 100000 in
theorem report_cells {m0 : Nat} {c0 c1 c2 c3 c4 : Value} {y0 : DataW H × List MemPlace} (h : DataW.trod enc Try.prog w 0 (fun _ => true) true m0 29 [c0, c1, c2, c3, c4] = some y0) :
    ∃ (t l g u j : Nat), (c0 = .int .u64 (t : Int) ∧ c1 = .int .u32 (l : Int) ∧ c2 = .int .u32 (g : Int) ∧ c3 = .int .u16 (u : Int) ∧ c4 = .int .u16 (j : Int)) ∧ t < 18446744073709551616 ∧ l < 4294967296 ∧ g < 4294967296 ∧ u < 65536 ∧ j < 65536 := by
  obtain ⟨xs, m, -, -, -, hl, hx⟩ := DataW.trod_struct Try.underlying29 h
  have hl : xs.length = 5 := hl
  have h0 := hx 0 _ rfl
  have h1 := hx 1 _ rfl
  have h2 := hx 2 _ rfl
  have h3 := hx 3 _ rfl
  have h4 := hx 4 _ rfl
  rw [List.getElem?_eq_getElem (by omega)] at h0 h1 h2 h3 h4
  have p0 : DataW.trod enc Try.prog w 0 (fun _ => true) true m 27 [c0] = some xs[0] := h0
  have p1 : DataW.trod enc Try.prog w 0 (fun _ => true) true m 23 [c1] = some xs[1] := h1
  have p2 : DataW.trod enc Try.prog w 0 (fun _ => true) true m 23 [c2] = some xs[2] := h2
  have p3 : DataW.trod enc Try.prog w 0 (fun _ => true) true m 22 [c3] = some xs[3] := h3
  have p4 : DataW.trod enc Try.prog w 0 (fun _ => true) true m 22 [c4] = some xs[4] := h4
  clear hx h0 h1 h2 h3 h4
  obtain ⟨t, rfl, w0⟩ := part_int Try.underlying27 p0
  obtain ⟨l, rfl, w1⟩ := part_int Try.underlying23 p1
  obtain ⟨g, rfl, w2⟩ := part_int Try.underlying23 p2
  obtain ⟨u, rfl, w3⟩ := part_int Try.underlying22 p3
  obtain ⟨j, rfl, w4⟩ := part_int Try.underlying22 p4
  have k0 := bounds_u64 w0
  have k1 := bounds_u32 w1
  have k2 := bounds_u32 w2
  have k3 := bounds_u16 w3
  have k4 := bounds_u16 w4
  obtain ⟨t, rfl⟩ : ∃ n : Nat, t = n := ⟨t.toNat, by omega⟩
  obtain ⟨l, rfl⟩ : ∃ n : Nat, l = n := ⟨l.toNat, by omega⟩
  obtain ⟨g, rfl⟩ : ∃ n : Nat, g = n := ⟨g.toNat, by omega⟩
  obtain ⟨u, rfl⟩ : ∃ n : Nat, u = n := ⟨u.toNat, by omega⟩
  obtain ⟨j, rfl⟩ : ∃ n : Nat, j = n := ⟨j.toNat, by omega⟩
  exact ⟨t, l, g, u, j, ⟨rfl, rfl, rfl, rfl, rfl⟩, by omega, by omega, by omega, by omega, by omega⟩

set_option maxRecDepth 100000 in
theorem open_packet {r0 : Reach} {b0 : Nat} {v : Value} {d : DataW H} {ps : List MemPlace} (hval : Value.okWide Try.prog w r0 b0 31 v) (h : DataW.Trod enc Try.prog w 0 (fun _ => true) true 31 v d ps) :
    ∃ (p : Pk) (r : Option Addr) (c : Nat), v = .agg #[.int .i64 p.k, .int .u16 (p.s : Int), .int .u16 (p.t : Int), .int .u32 (p.f : Int), .int .u16 (p.y : Int), .slice r p.n c, .int .u64 (p.T : Int), .int .u32 (p.l : Int), .int .u32 (p.g : Int), .int .u16 (p.u : Int), .int .u16 (p.j : Int), .int .u32 (p.F : Int), .int .u16 (p.d : Int)] ∧ (p.Ok ∧ (-9223372036854775808 ≤ p.k ∧ p.k ≤ 9223372036854775807) ∧ BytesAt w r p.n p.x ∧ p.n ≤ c ∧ c ≤ maxLen) := by
  obtain ⟨cs, rfl, hsz⟩ := okWide_struct Try.underlying31 hval
  have hC : Try.prog.cellsOf 31 = 13 := by kernel_rfl
  rw [hC] at hsz
  obtain ⟨c0, c1, c2, c3, c4, c5, c6, c7, c8, c9, c10, c11, c12, rfl⟩ := array13 hsz
  obtain ⟨fuel, hf⟩ := h
  obtain ⟨xs, m, -, -, -, hl, hx⟩ := DataW.trod_struct Try.underlying31 hf
  have hl : xs.length = 5 := hl
  have h0 := hx 0 _ rfl
  have h1 := hx 1 _ rfl
  have h2 := hx 2 _ rfl
  have h3 := hx 3 _ rfl
  have h4 := hx 4 _ rfl
  rw [List.getElem?_eq_getElem (by omega)] at h0 h1 h2 h3 h4
  have p0 : DataW.trod enc Try.prog w 0 (fun _ => true) true m 3 [c0] = some xs[0] := h0
  have p1 : DataW.trod enc Try.prog w 0 (fun _ => true) true m 26 [c1, c2, c3, c4, c5] = some xs[1] := h1
  have p2 : DataW.trod enc Try.prog w 0 (fun _ => true) true m 29 [c6, c7, c8, c9, c10] = some xs[2] := h2
  have p3 : DataW.trod enc Try.prog w 0 (fun _ => true) true m 23 [c11] = some xs[3] := h3
  have p4 : DataW.trod enc Try.prog w 0 (fun _ => true) true m 22 [c12] = some xs[4] := h4
  clear hx h0 h1 h2 h3 h4
  obtain ⟨k, rfl, w0⟩ := part_int Try.underlying3 p0
  obtain ⟨s, t, f, y, a, n, c, x, ⟨rfl, rfl, rfl, rfl, rfl⟩, ls, lt, lf, ly, hB, hc, hm⟩ := data_cells p1
  obtain ⟨T, l, g, u, j, ⟨rfl, rfl, rfl, rfl, rfl⟩, lT, ll, lg, lu, lj⟩ := report_cells p2
  obtain ⟨F, rfl, w3⟩ := part_int Try.underlying23 p3
  obtain ⟨e, rfl, w4⟩ := part_int Try.underlying22 p4
  have k0 := bounds_i64 w0
  have k3 := bounds_u32 w3
  have k4 := bounds_u16 w4
  obtain ⟨F, rfl⟩ : ∃ n : Nat, F = n := ⟨F.toNat, by omega⟩
  obtain ⟨e, rfl⟩ : ∃ n : Nat, e = n := ⟨e.toNat, by omega⟩
  exact ⟨⟨k, s, t, f, y, n, x, T, l, g, u, j, F, e⟩, a, c, rfl, ⟨ls, lt, lf, ly, lT, ll, lg, lu, lj, by show F < _; omega, by show e < _; omega, hB.lt⟩, ⟨by show _ ≤ k; omega, by show k ≤ _; omega⟩, hB, hc, hm⟩
end
end Go.Proofs.Ytcflaklnafggmaa

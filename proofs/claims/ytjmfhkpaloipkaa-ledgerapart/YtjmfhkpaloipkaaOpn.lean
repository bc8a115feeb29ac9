/-
  What came in as rows of arrays of bytes, as rows of rows of bytes, as an array of bytes: read as plain functions. No program.
-/
import Derived.Test.YtjmfhkpaloipkaaMem
import Derived.OpenShut
import Derived.Deep.Matrix
namespace Go.Proofs.Ytjmfhkpaloipkaa
open Go.ChangeShapes Go.WideShapes Go.RowKit Go.Deep

section
variable {H : Type} {enc : TypeId × Value → H} {P : Program} {w : World} {base : Nat} {spare : Nat → Bool} {held : Bool}

theorem wf_u8 {z : Int} (h : (Lit.int .u8 z).wf = true) : ∃ n : Nat, z = n ∧ n < 256 := int_nat z (by have := bounds_u8 h; omega)

/-- The cells of an array of bytes. -/
theorem trod_u8s {t e : TypeId} {n fuel : Nat} {cs : List Value} {x : DataW H × List MemPlace} (ht : P.underlying t = some (.array n e)) (he : P.underlying e = some (.int .u8)) (hc : P.cellsOf e = 1) (hct : P.cellsOf t = n)
    (h : DataW.trod enc P w base spare held fuel t cs = some x) : cs.length = n ∧ ∃ f : Nat → Nat, ∀ i, i < n → cs[i]? = some (.int .u8 (f i : Int)) ∧ f i < 256 := by
  obtain ⟨xs, m, -, -, hl, hx, hi⟩ := DataW.trod_array ht h
  rw [hct] at hl
  refine ⟨hl, ?_⟩
  have each : ∀ i, i < n → ∃ z : Nat, cs[i]? = some (.int .u8 (z : Int)) ∧ z < 256 := by
    intro i h0
    have g := hi i h0
    rw [hc, Nat.mul_one, List.getElem?_eq_getElem (by omega)] at g
    obtain ⟨z, e1, -, e3⟩ := DataW.trod_int he g
    obtain ⟨k, rfl, hk⟩ := wf_u8 e3
    refine ⟨k, ?_, hk⟩
    have e4 : ((cs.drop i).take 1)[0]? = some (.int .u8 (k : Int)) := by rw [e1]; rfl
    rw [List.getElem?_take_of_lt (by decide), List.getElem?_drop, Nat.add_zero] at e4
    exact e4
  obtain ⟨f, hf⟩ := choose_lt each
  exact ⟨f, hf⟩

/-- The slice's address a leads to len arrays of n bytes: the j-th of the i-th is f i j. -/
def ArrsAt (w : World) (a : Option Addr) (len n : Nat) (f : Nat → Nat → Nat) : Prop :=
  0 < len → ∃ b o, a = some ⟨b, o, none⟩ ∧ ∀ i, i < len → ∀ j, j < n → w.cell? ⟨b, o + (i * n + j), none⟩ = some (.int .u8 (f i j : Int)) ∧ f i j < 256

theorem add_add_plain (b o i j : Nat) : ((⟨b, o, none⟩ : Addr).add i).add j = ⟨b, o + (i + j), none⟩ := by
  have e : ∀ (x y : Nat), (⟨b, x, none⟩ : Addr).add y = ⟨b, x + y, none⟩ := fun x y => by unfold Addr.add; split <;> simp_all
  rw [e, e, Nat.add_assoc]
theorem open_arrs {t e q : TypeId} {n : Nat} {a : Option Addr} {len cap : Nat} {d : DataW H} {ps : List MemPlace} (ht : P.underlying t = some (.slice e)) (he : P.underlying e = some (.array n q)) (hq : P.underlying q = some (.int .u8)) (hc : P.cellsOf q = 1) (hce : P.cellsOf e = n) (hn : 0 < n)
    (h : DataW.Trod enc P w 0 (fun _ => true) true t (.slice a len cap) d ps) : ∃ f, ArrsAt w a len n f ∧ len ≤ cap ∧ cap ≤ maxLen := by
  obtain ⟨fuel, hf⟩ := h
  rcases open_slice ht hf with ⟨hcs, -⟩ | ⟨x, l, c, m, k, D, Pl, hcs, -, hl, hm, hmm, -, hi⟩
  · simp [Value.cells] at hcs
    obtain ⟨rfl, rfl, rfl⟩ := hcs
    exact ⟨fun _ _ => 0, fun h => absurd h (by omega), by omega, by unfold maxLen; omega⟩
  · simp [Value.cells] at hcs
    obtain ⟨rfl, rfl, rfl⟩ := hcs
    simp only [if_true] at hmm
    subst hmm
    have each : ∀ i, i < len → ∃ f : Nat → Nat, ∀ j, j < n → w.cell? ((x.add (i * n)).add j) = some (.int .u8 (f j : Int)) ∧ f j < 256 := by
      intro i h0
      obtain ⟨cs', h1, h2⟩ := hi i (by omega)
      rw [hce] at h1
      obtain ⟨-, h4, h5⟩ := World.cells?_some h1
      obtain ⟨-, f, h7⟩ := trod_u8s he hq hc hce h2
      exact ⟨f, fun j hj => ⟨by rw [h5 j hj]; exact (h7 j hj).1, (h7 j hj).2⟩⟩
    obtain ⟨f, hf⟩ := choose_lt each
    refine ⟨f, fun h0 => ?_, hl, hm⟩
    have hs := (hf 0 h0 0 hn).1
    rw [Nat.zero_mul] at hs
    have hx : x.spot = none := addr_plain (w := w) (x := x) hs
    obtain ⟨b, o, s⟩ := x
    simp only at hx
    subst hx
    refine ⟨b, o, rfl, fun i h1 j h2 => ?_⟩
    have := hf i h1 j h2
    rw [add_add_plain] at this
    exact this

/-- A slice of bytes. -/
theorem open_bytes {t e : TypeId} {a : Option Addr} {len cap : Nat} {d : DataW H} {ps : List MemPlace} (ht : P.underlying t = some (.slice e)) (he : P.underlying e = some (.int .u8)) (hc : P.cellsOf e = 1)
    (h : DataW.Trod enc P w 0 (fun _ => true) true t (.slice a len cap) d ps) : ∃ x, BytesAt w a len x ∧ len ≤ cap ∧ cap ≤ maxLen := by
  obtain ⟨fuel, hf⟩ := h
  rcases open_slice ht hf with ⟨hcs, -⟩ | ⟨x, l, c, m, k, D, Pl, hcs, -, hl, hm, hmm, -, hi⟩
  · simp [Value.cells] at hcs
    obtain ⟨rfl, rfl, rfl⟩ := hcs
    exact ⟨fun _ => 0, ⟨fun h => absurd h (by omega), fun i hi => absurd hi (by omega)⟩, by omega, by unfold maxLen; omega⟩
  · simp [Value.cells] at hcs
    obtain ⟨rfl, rfl, rfl⟩ := hcs
    simp only [if_true] at hmm
    subst hmm
    have each : ∀ i, i < len → ∃ z : Nat, w.cell? (x.add i) = some (.int .u8 (z : Int)) ∧ z < 256 := by
      intro i h0
      obtain ⟨cs', h1, h2⟩ := hi i (by omega)
      rw [hc, Nat.mul_one] at h1
      obtain ⟨-, -, h5⟩ := World.cells?_some h1
      obtain ⟨z, e1, -, e3⟩ := DataW.trod_int he h2
      obtain ⟨n, rfl, hn⟩ := wf_u8 e3
      refine ⟨n, ?_, hn⟩
      have h6 := h5 0 (by omega)
      rw [e1] at h6
      exact h6
    obtain ⟨f, hf⟩ := choose_lt each
    refine ⟨f, ⟨fun h0 => ?_, fun i hi => (hf i hi).2⟩, hl, hm⟩
    have hs := (hf 0 h0).1
    have hx : x.spot = none := addr_plain (w := w) (x := x) hs
    obtain ⟨b, o, s⟩ := x
    simp only at hx
    subst hx
    refine ⟨b, o, rfl, fun i h1 => ?_⟩
    have := (hf i h1).1
    rwa [show (⟨b, o, none⟩ : Addr).add i = ⟨b, o + i, none⟩ by unfold Addr.add; split <;> simp_all] at this

/-- The slice's address a leads to len slices of bytes: the i-th is (A i, L i, C i), its bytes Z i. -/
def ListsAt (w : World) (a : Option Addr) (len : Nat) (A : Nat → Option Addr) (L C : Nat → Nat) (Z : Nat → Nat → Nat) : Prop :=
  0 < len → ∃ b o, a = some ⟨b, o, none⟩ ∧ ∀ i, i < len → w.cell? ⟨b, o + i, none⟩ = some (.slice (A i) (L i) (C i)) ∧ L i ≤ C i ∧ C i ≤ maxLen ∧ BytesAt w (A i) (L i) (Z i)

theorem open_lists {t e q : TypeId} {a : Option Addr} {len cap : Nat} {d : DataW H} {ps : List MemPlace} (ht : P.underlying t = some (.slice e)) (he : P.underlying e = some (.slice q)) (hq : P.underlying q = some (.int .u8)) (ce : P.cellsOf e = 1) (cq : P.cellsOf q = 1)
    (h : DataW.Trod enc P w 0 (fun _ => true) true t (.slice a len cap) d ps) : ∃ A L C Z, ListsAt w a len A L C Z ∧ len ≤ cap ∧ cap ≤ maxLen := by
  obtain ⟨fuel, hf⟩ := h
  rcases open_int_rows ht he hq ce cq hf with ⟨hcs, -⟩ | ⟨x, l, c, A, L, C, Z, hcs, -, hl, hm, -, hi⟩
  · simp [Value.cells] at hcs
    obtain ⟨rfl, rfl, rfl⟩ := hcs
    exact ⟨fun _ => none, fun _ => 0, fun _ => 0, fun _ _ => 0, fun h => absurd h (by omega), by omega, by unfold maxLen; omega⟩
  · simp [Value.cells] at hcs
    obtain ⟨rfl, rfl, rfl⟩ := hcs
    refine ⟨A, L, C, fun r i => ((Z r).getD i 0).toNat, fun h0 => ?_, hl, hm⟩
    have hx : x.spot = none := addr_plain (w := w) (x := x) (hi 0 (by omega)).1
    obtain ⟨b, o, s⟩ := x
    simp only at hx
    subst hx
    refine ⟨b, o, rfl, fun i h1 => ?_⟩
    obtain ⟨g1, g2, g3, g4, g5, g6, g7⟩ := hi i (by omega)
    have ea : (⟨b, o, none⟩ : Addr).add i = ⟨b, o + i, none⟩ := by unfold Addr.add; split <;> simp_all
    rw [ea] at g1
    have hcame : Came w (A i) (L i) (C i) (Z i) := by
      cases hA : A i with
      | none =>
        have := g6 hA
        exact .inl ⟨rfl, by omega, this, List.eq_nil_of_length_eq_zero (by omega)⟩
      | some a' => exact .inr ⟨a', rfl, g2, g3, g4, fun k hk => (g7 a' hA).2 k (by omega), g5⟩
    exact ⟨g1, g2, g3, hcame.bytes.1⟩

/-- An array of bytes that came in by value. -/
theorem open_arr_u8 {r : Reach} {b0 : Nat} {t e : TypeId} {n : Nat} {v : Value} {d : DataW H} {ps : List MemPlace} (ht : P.underlying t = some (.array n e)) (he : P.underlying e = some (.int .u8)) (hc : P.cellsOf e = 1) (hct : P.cellsOf t = n)
    (hval : Value.okWide P w r b0 t v) (h : DataW.Trod enc P w 0 (fun _ => true) true t v d ps) : ∃ (c : Array Value) (f : Nat → Nat), v = .agg c ∧ c.size = n ∧ ∀ i, i < n → c[i]? = some (.int .u8 (f i : Int)) ∧ f i < 256 := by
  simp only [Value.okWide, ht] at hval
  obtain ⟨c, rfl, h2, -⟩ := hval
  obtain ⟨fuel, hf⟩ := h
  obtain ⟨h3, f, h4⟩ := trod_u8s ht he hc hct hf
  refine ⟨c, f, rfl, by rw [h2, hct], fun i hi => ?_⟩
  have := h4 i hi
  simpa [Value.cells] using this
end
end Go.Proofs.Ytjmfhkpaloipkaa

/-
  What came in as a slice of arrays of ints: read as a plain function. What is left of an int's lowest bits. No program.
-/
import Derived.Test.YtjmfhkpaloipkaaOpn
namespace Go.Proofs.Ytjmfhkpaloipkaa
open Go.ChangeShapes Go.WideShapes Go.RowKit Go.Deep

theorem and_low (z : Int) (m : Nat) (hm : m < 1000000) : ∃ F : Nat, bits .and .i64 z (m : Int) = (F : Int) ∧ F ≤ m := by
  have h : (BitVec.ofInt 64 z &&& BitVec.ofInt 64 (m : Int)).toNat ≤ m := by
    rw [BitVec.toNat_and, BitVec.ofInt_natCast, BitVec.toNat_ofNat, Nat.mod_eq_of_lt (a := m) (by omega)]
    exact Nat.and_le_right
  refine ⟨(BitVec.ofInt 64 z &&& BitVec.ofInt 64 (m : Int)).toNat, ?_, h⟩
  show IntKind.i64.wrap ((BitVec.ofInt 64 z &&& BitVec.ofInt 64 (m : Int)).toNat : Int) = _
  generalize (BitVec.ofInt 64 z &&& BitVec.ofInt 64 (m : Int)).toNat = F at *
  simp [IntKind.wrap, IntKind.bits, IntKind.signed]
  omega
section
variable {H : Type} {enc : TypeId × Value → H} {P : Program} {w : World} {base : Nat} {spare : Nat → Bool} {held : Bool}
/-- The slice's address a leads to len arrays of n ints: the j-th of the i-th is f i j. -/
def TrisAt (w : World) (a : Option Addr) (len n : Nat) (f : Nat → Nat → Int) : Prop :=
  0 < len → ∃ b o, a = some ⟨b, o, none⟩ ∧ ∀ i, i < len → ∀ j, j < n → w.cell? ⟨b, o + (i * n + j), none⟩ = some (.int .i64 (f i j))
theorem TrisAt.below {w w' : World} {a : Option Addr} {len n B : Nat} {f : Nat → Nat → Int} (h : TrisAt w a len n f) (hb : Below B w w') (hB : w.heap.size ≤ B) : TrisAt w' a len n f := fun h0 => by
  obtain ⟨b, o, e, hc⟩ := h h0
  exact ⟨b, o, e, fun i hi j hj => (hb.cell (p := ⟨b, o + (i * n + j), none⟩) (Nat.lt_of_lt_of_le (cell_lt (hc i hi j hj)) hB)).trans (hc i hi j hj)⟩
theorem trod_i64s {t e : TypeId} {n fuel : Nat} {cs : List Value} {x : DataW H × List MemPlace} (ht : P.underlying t = some (.array n e)) (he : P.underlying e = some (.int .i64)) (hc : P.cellsOf e = 1) (hct : P.cellsOf t = n)
    (h : DataW.trod enc P w base spare held fuel t cs = some x) : ∃ f : Nat → Int, ∀ i, i < n → cs[i]? = some (.int .i64 (f i)) := by
  obtain ⟨xs, m, -, -, hl, hx, hi⟩ := DataW.trod_array ht h
  rw [hct] at hl
  have each : ∀ i, i < n → ∃ z : Int, cs[i]? = some (.int .i64 z) := by
    intro i h0
    have g := hi i h0
    rw [hc, Nat.mul_one, List.getElem?_eq_getElem (by omega)] at g
    obtain ⟨z, e1, -, -⟩ := DataW.trod_int he g
    refine ⟨z, ?_⟩
    have e4 : ((cs.drop i).take 1)[0]? = some (.int .i64 z) := by rw [e1]; rfl
    rw [List.getElem?_take_of_lt (by decide), List.getElem?_drop, Nat.add_zero] at e4
    exact e4
  exact choose_lt each
theorem open_tris {t e q : TypeId} {n : Nat} {a : Option Addr} {len cap : Nat} {d : DataW H} {ps : List MemPlace} (ht : P.underlying t = some (.slice e)) (he : P.underlying e = some (.array n q)) (hq : P.underlying q = some (.int .i64)) (hc : P.cellsOf q = 1) (hce : P.cellsOf e = n) (hn : 0 < n)
    (h : DataW.Trod enc P w 0 (fun _ => true) true t (.slice a len cap) d ps) : ∃ f, TrisAt w a len n f ∧ len ≤ cap ∧ cap ≤ maxLen := by
  obtain ⟨fuel, hf⟩ := h
  rcases open_slice ht hf with ⟨hcs, -⟩ | ⟨x, l, c, m, k, D, Pl, hcs, -, hl, hm, hmm, -, hi⟩
  · simp [Value.cells] at hcs
    obtain ⟨rfl, rfl, rfl⟩ := hcs
    exact ⟨fun _ _ => 0, fun h => absurd h (by omega), by omega, by unfold maxLen; omega⟩
  · simp [Value.cells] at hcs
    obtain ⟨rfl, rfl, rfl⟩ := hcs
    simp only [if_true] at hmm
    subst hmm
    have each : ∀ i, i < len → ∃ f : Nat → Int, ∀ j, j < n → w.cell? ((x.add (i * n)).add j) = some (.int .i64 (f j)) := by
      intro i h0
      obtain ⟨cs', h1, h2⟩ := hi i (by omega)
      rw [hce] at h1
      obtain ⟨-, -, h5⟩ := World.cells?_some h1
      obtain ⟨f, h7⟩ := trod_i64s he hq hc hce h2
      exact ⟨f, fun j hj => by rw [h5 j hj]; exact h7 j hj⟩
    obtain ⟨f, hf⟩ := choose_lt each
    refine ⟨f, fun h0 => ?_, hl, hm⟩
    have hs := hf 0 h0 0 hn
    rw [Nat.zero_mul] at hs
    have hx : x.spot = none := addr_plain (w := w) (x := x) hs
    obtain ⟨b, o, s⟩ := x
    simp only at hx
    subst hx
    refine ⟨b, o, rfl, fun i h1 j h2 => ?_⟩
    have := hf i h1 j h2
    rw [add_add_plain] at this
    exact this
end
end Go.Proofs.Ytjmfhkpaloipkaa

/-
  Bytes of numbers in memory: rows that are put together, parts of rows, what stays where another cell is written.
-/
import Derived.Test.YthlidbenhlidjaaHig
import Derived.Test.YthlidbenhlidjaaRor
import Derived.Test.YthlidbenhlidjaaBit
import Derived.OrdersHeld
import Derived.Deep.RegionHeld
namespace Go.Proofs.Ythlidbenhlidjaa
open Go.RowKit Go.Deep

/-- A row of bytes stays where a slice is written over a slice. -/
theorem BytesAt.setSlice {w : World} {a : Option Addr} {n R i : Nat} {x : Nat → Nat} {r : Option Addr} {m c : Nat} {v : Value} (h : BytesAt w a n x) (hc : w.cell? ⟨R, i, none⟩ = some (.slice r m c)) : BytesAt (w.setCell ⟨R, i, none⟩ v) a n x := by
  refine ⟨fun hn => ?_, h.lt⟩
  obtain ⟨b, o, e, hx⟩ := h.cells hn
  refine ⟨b, o, e, fun j hj => ?_⟩
  have h1 := hx j hj
  rw [World.cell?_setCell_other _ _ _ _ (fun e => by rw [e, h1] at hc; cases hc)]
  exact h1
/-- A row of bytes stays where a number of another kind is written over such a one. -/
theorem BytesAt.setNum {w : World} {a : Option Addr} {n R i : Nat} {x : Nat → Nat} {k : IntKind} {z : Int} {v : Value} (h : BytesAt w a n x) (hc : w.cell? ⟨R, i, none⟩ = some (.int k z)) (hk : k ≠ .u8) : BytesAt (w.setCell ⟨R, i, none⟩ v) a n x := by
  refine ⟨fun hn => ?_, h.lt⟩
  obtain ⟨b, o, e, hx⟩ := h.cells hn
  refine ⟨b, o, e, fun j hj => ?_⟩
  have h1 := hx j hj
  rw [World.cell?_setCell_other _ _ _ _ (fun e => by rw [e, h1] at hc; cases hc; exact hk rfl)]
  exact h1
theorem cat_left {x y : Nat → Nat} {n i : Nat} (h : i < n) : cat x y n i = x i := if_pos h
theorem one_byte (w : World) (d : Nat) (t : TypeId) (h : d < 256) : BytesAt (w.alloc (.cells #[.int .u8 (d : Int)] t)) (some ⟨w.heap.size, 0, none⟩) 1 (fun _ => d) := by
  refine ⟨fun _ => ⟨_, 0, rfl, fun i hi => ?_⟩, fun _ _ => h⟩
  obtain rfl : i = 0 := by omega
  simp
theorem blk_ne {b b' o o' : Nat} (h : b ≠ b') : (⟨b, o, none⟩ : Addr) ≠ ⟨b', o', none⟩ := fun e => h (Addr.mk.inj e).1
/-- A new row of n bytes, as one of the call's own. -/
theorem ror_made {w : World} {base g n : Nat} {x : Nat → Nat} (h : w.rowIs g 5 n (byteAt x)) (hb : base ≤ g) (hn : n ≤ maxLen) : Ror w base (.slice (some ⟨g, 0, none⟩) n n) n x := by
  obtain ⟨c, hc, hs, hx⟩ := h
  refine ⟨by rw [cellsAt_len, Nat.mul_one], .inr ⟨g, n, c, rfl, hb, hc, Nat.le_refl _, hn, by rw [hs, Nat.mul_one], ?_⟩⟩
  rw [Nat.mul_one]
  refine List.ext_getElem? fun i => ?_
  by_cases hi : i < n
  · rw [List.getElem?_take_of_lt hi, Array.getElem?_toList, hx i hi]
    simp [cellsAt, hi, byteAt]
  · rw [List.getElem?_eq_none (by simp; omega), List.getElem?_eq_none (by rw [cellsAt_len]; omega)]

set_option maxRecDepth 100000 in
/-- What is left of a slice behind its first l bytes. -/
theorem slice_left (a : Option Addr) (n c l : Nat) (x : Nat → Nat) (w : World) (hx : BytesAt w a n x) (h0 : 1 ≤ n) (h1 : l ≤ n) (h2 : n ≤ c) :
    ∃ a', (∀ W, (Instr.slice 26 (.slice a n c) (some (.int .i64 (l : Int))) none none).run Try.prog W = .ok (.slice a' (n - l) (c - l)) W) ∧ BytesAt w a' (n - l) (fun i => x (l + i)) := by
  obtain ⟨b, o, rfl⟩ := bytes_some hx h0
  by_cases h : l < n
  · refine ⟨some ⟨b, o + l, none⟩, fun W => slice_from b o n c l W h h2, ?_⟩
    rw [show n = l + (n - l) by omega] at hx
    exact hx.drop
  · obtain rfl : l = n := by omega
    refine ⟨if c = l then some ⟨b, o, none⟩ else some ⟨b, o + l, none⟩, fun W => ?_, ?_⟩
    · have e := run_slice_l (P := Try.prog) W 26 (some ⟨b, o, none⟩) l c Try.underlying26 .i64 (l : Int) (by omega) (by omega)
      rw [e]
      have hs : (sizeOf (Try.prog.elem 26)).run Try.prog W = .ok 1 W := by kernel_rfl
      rw [hs]
      have hz : (⟨b, o, none⟩ : Addr).add l = ⟨b, o + l, none⟩ := by unfold Addr.add; split <;> simp_all
      simp only [Result.andThen, sliced, Int.toNat_natCast, Nat.mul_one, Option.map_some, hz]
    · rw [Nat.sub_self]
      exact ⟨fun h => absurd h (by omega), fun i hi => absurd hi (by omega)⟩

set_option maxRecDepth 100000 in
theorem slice_span (b o n c lo hi : Nat) (w : World) (h1 : lo ≤ hi) (h2 : hi ≤ c) (h3 : lo < c) : (Instr.slice 26 (.slice (some ⟨b, o, none⟩) n c) (some (.int .i64 (lo : Int))) (some (.int .i64 (hi : Int))) none).run Try.prog w = .ok (.slice (some ⟨b, o + lo, none⟩) (hi - lo) (c - lo)) w := by
  have e := run_slice_lh (P := Try.prog) w 26 (some ⟨b, o, none⟩) n c Try.underlying26 .i64 .i64 (lo : Int) (hi : Int) (by omega) (by omega) (by omega)
  rw [e]
  have hs : (sizeOf (Try.prog.elem 26)).run Try.prog w = .ok 1 w := by kernel_rfl
  rw [hs]
  have hz : (⟨b, o, none⟩ : Addr).add lo = ⟨b, o + lo, none⟩ := by unfold Addr.add; split <;> simp_all
  simp only [Result.andThen, sliced, Int.toNat_natCast, Nat.mul_one, Option.map_some, hz]
  rw [if_neg (by omega)]
theorem BytesAt.span {w : World} {b o n lo m : Nat} {x : Nat → Nat} (h : BytesAt w (some ⟨b, o, none⟩) n x) (hn : lo + m ≤ n) : BytesAt w (some ⟨b, o + lo, none⟩) m (fun i => x (lo + i)) := (h.take (m := lo + m) hn).drop
/-- Under more than is asked. -/
theorem wpAnyH_mono {P : Program} {md : Region.Mode} {ops : Array Oper} {Q : Exit → Act → World → Prop} {S S' : World → Prop} (h : ∀ w, S' w → S w) : ∀ (fuel : Nat) (listed : Array Bool) (a : Act) (w : World), wpAnyH P md ops Q S' fuel listed a w → wpAnyH P md ops Q S fuel listed a w
  | 0, _, _, _, hh => hh
  | fuel + 1, _, _, _, hh => ⟨hh.1, fun i hi => wpOp_mono (fun a' w' h' => ⟨h _ h'.1, wpAnyH_mono h fuel _ a' w' h'.2⟩) (hh.2 i hi)⟩
end Go.Proofs.Ythlidbenhlidjaa

/-
  A Basis in memory, what stays of it while others go on, and New.
-/
import Derived.Test.YtdlalcbcgdambaaBld
import Derived.Test.YtdlalcbcgdambaaNil
import Derived.Deep.RegionHeld3
namespace Go.Proofs.Ytdlalcbcgdambaa
open Go.RowKit Go.Deep

/-- All that lay in w lies in w', but for block R. -/
structure Kept (R : Nat) (w w' : World) : Prop where
  os : w'.os = w.os
  tape : w'.tape = w.tape
  output : w'.output = w.output
  size : w.heap.size ≤ w'.heap.size
  block : ∀ k, k < w.heap.size → k ≠ R → w'.heap[k]? = w.heap[k]?
theorem Kept.refl (R : Nat) (w : World) : Kept R w w := ⟨rfl, rfl, rfl, Nat.le_refl _, fun _ _ _ => rfl⟩
theorem Kept.trans {R : Nat} {a b c : World} (h : Kept R a b) (k : Kept R b c) : Kept R a c :=
  ⟨k.os.trans h.os, k.tape.trans h.tape, k.output.trans h.output, Nat.le_trans h.size k.size, fun i hi hR => (k.block i (Nat.lt_of_lt_of_le hi h.size) hR).trans (h.block i hi hR)⟩
theorem Kept.of_below {R : Nat} {w w' : World} (h : Below w.heap.size w w') : Kept R w w' := ⟨h.os, h.tape, h.output, h.size, fun k hk _ => h.block k hk⟩
theorem Kept.of_same {R : Nat} {w w' : World} (h : Same w w') : Kept R w w' := Kept.of_below (h.below _)
theorem Kept.below {R B : Nat} {w w' : World} (h : Kept R w w') (hR : B ≤ R) (hB : B ≤ w.heap.size) : Below B w w' :=
  ⟨h.os, h.tape, h.output, h.size, fun k hk => h.block k (by omega) (by omega)⟩
theorem Kept.set {R : Nat} (w : World) (i : Nat) (v : Value) : Kept R w (w.setCell ⟨R, i, none⟩ v) :=
  ⟨rfl, rfl, rfl, by simp [World.setCell], fun k _ hR => Below.heap_setCell w _ v k hR⟩
theorem Kept.cell {R b o : Nat} {w w' : World} {v : Value} (h : Kept R w w') (hc : w.cell? ⟨b, o, none⟩ = some v) (hR : b ≠ R) : w'.cell? ⟨b, o, none⟩ = some v := by
  rw [World.cell?_of_block (w := w) (h.block b (cell_lt hc) hR), hc]

/-- What stands at a place of the rows' room: nil, or a row of n bytes. -/
def RowVal (w : World) (n : Nat) (v : Value) : Option (Nat → Nat) → Prop
  | none => v = .slice none 0 0
  | some r => ∃ b c, v = .slice (some ⟨b, 0, none⟩) n c ∧ n ≤ c ∧ BytesAt w (some ⟨b, 0, none⟩) n r

/-- The block B holds a Basis of k unknowns of size bytes, block R the room of its rows: S tells which row leads at which place. -/
structure BasisAt (w : World) (B R k size : Nat) (S : Nat → Option (Nat → Nat)) : Prop where
  field : FieldAt w B
  sz : w.cell? ⟨B, 766, none⟩ = some (.int .i64 (size : Int))
  rows : w.cell? ⟨B, 767, none⟩ = some (.slice (some ⟨R, 0, none⟩) k k)
  room : ∃ A : Nat → Value, w.rowIs R 24 k A ∧ ∀ i, i < k → RowVal w (k + size) (A i) (S i)
  k1 : 1 ≤ k
  k32 : k ≤ 32
  s1 : 1 ≤ size
  s64 : size ≤ 64

/-- No number lies in block R. -/
def Apart (w : World) (R : Nat) : Prop := ∀ b o κ z, w.cell? ⟨b, o, none⟩ = some (.int κ z) → b ≠ R
theorem BasisAt.apart {w : World} {B R k size : Nat} {S : Nat → Option (Nat → Nat)} (h : BasisAt w B R k size S) : Apart w R := by
  rintro b o κ z hc rfl
  obtain ⟨A, ⟨c, hb, hs, hA⟩, hv⟩ := h.room
  have e : c[o]? = some (.int κ z) := by simpa [World.cell?, hb] using hc
  have ho : o < k := by have := (Array.getElem?_eq_some_iff.1 e).1; omega
  rw [hA o ho] at e
  have := hv o ho
  rw [Option.some.inj e] at this
  cases hS : S o with
  | none => rw [hS] at this; cases this
  | some r => rw [hS] at this; obtain ⟨_, _, g, _⟩ := this; cases g

theorem FieldAt.kept {w w' : World} {b R : Nat} (h : FieldAt w b) (hk : Kept R w w') (ha : Apart w R) : FieldAt w' b :=
  ⟨fun i hi => hk.cell (h.powers i hi) (ha _ _ _ _ (h.powers i hi)), fun a hi => hk.cell (h.logs a hi) (ha _ _ _ _ (h.logs a hi))⟩
theorem BytesAt.kept {w w' : World} {a : Option Addr} {n R : Nat} {x : Nat → Nat} (h : BytesAt w a n x) (hk : Kept R w w') (ha : Apart w R) : BytesAt w' a n x := by
  refine ⟨fun hn => ?_, h.lt⟩
  obtain ⟨b, o, e, hc⟩ := h.cells hn
  exact ⟨b, o, e, fun i hi => hk.cell (hc i hi) (ha _ _ _ _ (hc i hi))⟩
theorem RowVal.kept {w w' : World} {n R : Nat} {v : Value} {s : Option (Nat → Nat)} (h : RowVal w n v s) (hk : Kept R w w') (ha : Apart w R) : RowVal w' n v s := by
  cases s with
  | none => exact h
  | some r => obtain ⟨b, c, e, hn, hB⟩ := h; exact ⟨b, c, e, hn, hB.kept hk ha⟩
/-- A Basis stays as it is while another one goes on. -/
theorem BasisAt.kept {w w' : World} {B R R' k size : Nat} {S : Nat → Option (Nat → Nat)} (h : BasisAt w B R k size S) (hk : Kept R' w w') (ha : Apart w R') (hne : R ≠ R') : BasisAt w' B R k size S := by
  have hB : B ≠ R' := ha _ _ _ _ h.sz
  refine ⟨h.field.kept hk ha, hk.cell h.sz hB, hk.cell h.rows hB, ?_, h.k1, h.k32, h.s1, h.s64⟩
  obtain ⟨A, hr, hv⟩ := h.room
  exact ⟨A, hr.of_block (hk.block R hr.lt hne), fun i hi => (hv i hi).kept hk ha⟩
theorem BytesAt.grew {w w' : World} {a : Option Addr} {n : Nat} {x : Nat → Nat} (h : BytesAt w a n x) (hb : Below w.heap.size w w') : BytesAt w' a n x := h.below hb (Nat.le_refl _)
theorem RowVal.grew {w w' : World} {n : Nat} {v : Value} {s : Option (Nat → Nat)} (h : RowVal w n v s) (hb : Below w.heap.size w w') : RowVal w' n v s := by
  cases s with
  | none => exact h
  | some r => obtain ⟨b, c, e, hn, hB⟩ := h; exact ⟨b, c, e, hn, hB.grew hb⟩
theorem BasisAt.lt {w : World} {B R k size : Nat} {S : Nat → Option (Nat → Nat)} (h : BasisAt w B R k size S) : B < w.heap.size ∧ R < w.heap.size := by
  obtain ⟨A, hr, -⟩ := h.room
  exact ⟨cell_lt h.sz, hr.lt⟩
theorem BasisAt.grew {w w' : World} {B R k size : Nat} {S : Nat → Option (Nat → Nat)} (h : BasisAt w B R k size S) (hb : Below w.heap.size w w') : BasisAt w' B R k size S := by
  have hl := h.lt
  refine ⟨h.field.below hb hl.1, (hb.cell (p := ⟨B, 766, none⟩) hl.1).trans h.sz, (hb.cell (p := ⟨B, 767, none⟩) hl.1).trans h.rows, ?_, h.k1, h.k32, h.s1, h.s64⟩
  obtain ⟨A, hr, hv⟩ := h.room
  exact ⟨A, hr.of_block (hb.block R hr.lt), fun i hi => (hv i hi).grew hb⟩
theorem BasisAt.same {w w' : World} {B R k size : Nat} {S : Nat → Option (Nat → Nat)} (h : BasisAt w B R k size S) (hb : Same w w') : BasisAt w' B R k size S := h.grew (hb.below _)

/-- Nothing but nil and no was answered. -/
def NoBasis (w : World) (e : Ending) (w' : World) : Prop := e = .returned (.tuple #[.pointer none, .bool false]) ∧ Same w w'
/-- A new Basis without rows was answered. -/
def NewBasis (w : World) (k size : Nat) (e : Ending) (w' : World) : Prop :=
  ∃ B R, e = .returned (.tuple #[.pointer (some ⟨B, 0, none⟩), .bool true]) ∧ w.heap.size ≤ B ∧ w.heap.size ≤ R ∧ BasisAt w' B R k size (fun _ => none) ∧ Below w.heap.size w w'

theorem Try.infoRow : (Try.prog.info? 24).map (fun i => (i.zero, i.size, i.bytes)) = some (some (.slice none 0 0), 1, 24) := by kernel_rfl

end Go.Proofs.Ytdlalcbcgdambaa

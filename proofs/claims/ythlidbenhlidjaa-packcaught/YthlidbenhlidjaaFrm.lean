/-
  Frames in memory: one in a variable's block, many in a row. No program.
-/
import Derived.Test.YthlidbenhlidjaaNms
namespace Go.Proofs.Ythlidbenhlidjaa
open Go.RowKit Go.Deep

/-- A frame: ID, Kind, Refs (where, how many, room), Size, Play, Deadline. -/
structure Fr where
  id : Nat
  k : Int
  a : Option Addr
  n : Nat
  c : Nat
  s : Int
  p : Int
  d : Int
def Fr.val (f : Fr) : Value := .agg #[.int .u32 (f.id : Int), .int .i64 f.k, .slice f.a f.n f.c, .int .i64 f.s, .int .i64 f.p, .int .i64 f.d]
/-- The block B holds the frame f. -/
structure FrAt (w : World) (B : Nat) (f : Fr) : Prop where
  c0 : w.cell? ⟨B, 0, none⟩ = some (.int .u32 (f.id : Int))
  c1 : w.cell? ⟨B, 1, none⟩ = some (.int .i64 f.k)
  c2 : w.cell? ⟨B, 2, none⟩ = some (.slice f.a f.n f.c)
  c3 : w.cell? ⟨B, 3, none⟩ = some (.int .i64 f.s)
  c4 : w.cell? ⟨B, 4, none⟩ = some (.int .i64 f.p)
  c5 : w.cell? ⟨B, 5, none⟩ = some (.int .i64 f.d)
  frz : ∀ i, w.frozen? ⟨B, i, none⟩ = false
theorem FrAt.made (w : World) (T : TypeId) (f : Fr) :
    FrAt (w.alloc (.cells #[.int .u32 (f.id : Int), .int .i64 f.k, .slice f.a f.n f.c, .int .i64 f.s, .int .i64 f.p, .int .i64 f.d] T)) w.heap.size f :=
  ⟨by rw [World.cell?_alloc_at _ _ _ _ rfl]; rfl, by rw [World.cell?_alloc_at _ _ _ _ rfl]; rfl, by rw [World.cell?_alloc_at _ _ _ _ rfl]; rfl, by rw [World.cell?_alloc_at _ _ _ _ rfl]; rfl, by rw [World.cell?_alloc_at _ _ _ _ rfl]; rfl, by rw [World.cell?_alloc_at _ _ _ _ rfl]; rfl,
   fun i => by rw [World.frozen?_alloc_at _ _ _ _ rfl]⟩
theorem FrAt.lt {w : World} {B : Nat} {f : Fr} (h : FrAt w B f) : B < w.heap.size := cell_lt h.c0
theorem FrAt.block {w w' : World} {B : Nat} {f : Fr} (h : FrAt w B f) (hb : w'.heap[B]? = w.heap[B]?) : FrAt w' B f :=
  ⟨(World.cell?_of_block (a := ⟨B, 0, none⟩) hb).trans h.c0, (World.cell?_of_block (a := ⟨B, 1, none⟩) hb).trans h.c1, (World.cell?_of_block (a := ⟨B, 2, none⟩) hb).trans h.c2, (World.cell?_of_block (a := ⟨B, 3, none⟩) hb).trans h.c3, (World.cell?_of_block (a := ⟨B, 4, none⟩) hb).trans h.c4, (World.cell?_of_block (a := ⟨B, 5, none⟩) hb).trans h.c5,
   fun i => (World.frozen?_of_block (a := ⟨B, i, none⟩) hb).trans (h.frz i)⟩
theorem FrAt.grew {w w' : World} {B : Nat} {f : Fr} (h : FrAt w B f) (hb : Below w.heap.size w w') : FrAt w' B f := h.block (hb.block B h.lt)
theorem FrAt.other {w : World} {B : Nat} {f : Fr} (h : FrAt w B f) {R i : Nat} (v : Value) (hne : R ≠ B) : FrAt (w.setCell ⟨R, i, none⟩ v) B f :=
  h.block (Below.heap_setCell w ⟨R, i, none⟩ v B (Ne.symm hne))

/-- The slice's address a leads to m frames: the i-th is K i. -/
def FrsAt (w : World) (a : Option Addr) (m : Nat) (K : Nat → Fr) : Prop :=
  0 < m → ∃ b o, a = some ⟨b, o, none⟩ ∧ ∀ i, i < m → w.cell? ⟨b, o + i * 6, none⟩ = some (.int .u32 ((K i).id : Int)) ∧ w.cell? ⟨b, o + i * 6 + 1, none⟩ = some (.int .i64 (K i).k) ∧ w.cell? ⟨b, o + i * 6 + 2, none⟩ = some (.slice (K i).a (K i).n (K i).c) ∧
    w.cell? ⟨b, o + i * 6 + 3, none⟩ = some (.int .i64 (K i).s) ∧ w.cell? ⟨b, o + i * 6 + 4, none⟩ = some (.int .i64 (K i).p) ∧ w.cell? ⟨b, o + i * 6 + 5, none⟩ = some (.int .i64 (K i).d)
theorem FrsAt.nil (w : World) (K : Nat → Fr) : FrsAt w none 0 K := fun h => absurd h (by omega)
theorem FrsAt.addr {w : World} {a : Option Addr} {m : Nat} {K : Nat → Fr} (h : FrsAt w a m K) (h0 : 0 < m) : ∃ b o, a = some ⟨b, o, none⟩ := by
  obtain ⟨b, o, e, -⟩ := h h0
  exact ⟨b, o, e⟩
theorem FrsAt.at {w : World} {b o m : Nat} {K : Nat → Fr} (h : FrsAt w (some ⟨b, o, none⟩) m K) (i : Nat) (hi : i < m) : w.cell? ⟨b, o + i * 6, none⟩ = some (.int .u32 ((K i).id : Int)) ∧ w.cell? ⟨b, o + i * 6 + 1, none⟩ = some (.int .i64 (K i).k) ∧ w.cell? ⟨b, o + i * 6 + 2, none⟩ = some (.slice (K i).a (K i).n (K i).c) ∧
    w.cell? ⟨b, o + i * 6 + 3, none⟩ = some (.int .i64 (K i).s) ∧ w.cell? ⟨b, o + i * 6 + 4, none⟩ = some (.int .i64 (K i).p) ∧ w.cell? ⟨b, o + i * 6 + 5, none⟩ = some (.int .i64 (K i).d) := by
  obtain ⟨b', o', e, hc⟩ := h (by omega)
  cases e
  exact hc i hi
theorem FrsAt.block {w w' : World} {a : Option Addr} {m : Nat} {K : Nat → Fr} (h : FrsAt w a m K) (hb : ∀ b o, a = some ⟨b, o, none⟩ → b < w.heap.size → w'.heap[b]? = w.heap[b]?) : FrsAt w' a m K := fun h0 => by
  obtain ⟨b, o, e, hc⟩ := h h0
  have hl := hb b o e (cell_lt (hc 0 h0).1)
  have q : ∀ j, w'.cell? ⟨b, j, none⟩ = w.cell? ⟨b, j, none⟩ := fun j => World.cell?_of_block (a := ⟨b, j, none⟩) hl
  refine ⟨b, o, e, fun i hi => ?_⟩
  rw [q, q, q, q, q, q]
  exact hc i hi
theorem FrsAt.below {w w' : World} {a : Option Addr} {m B : Nat} {K : Nat → Fr} (h : FrsAt w a m K) (hb : Below B w w') (hB : w.heap.size ≤ B) : FrsAt w' a m K :=
  h.block fun b _ _ hl => hb.block b (Nat.lt_of_lt_of_le hl hB)
theorem FrsAt.grew {w w' : World} {a : Option Addr} {m : Nat} {K : Nat → Fr} (h : FrsAt w a m K) (hb : Below w.heap.size w w') : FrsAt w' a m K := h.below hb (Nat.le_refl _)
theorem NumsAt.grew {κ : IntKind} {w w' : World} {a : Option Addr} {n : Nat} {x : Nat → Int} (h : NumsAt κ w a n x) (hb : Below w.heap.size w w') : NumsAt κ w' a n x := h.below hb (Nat.le_refl _)
end Go.Proofs.Ythlidbenhlidjaa

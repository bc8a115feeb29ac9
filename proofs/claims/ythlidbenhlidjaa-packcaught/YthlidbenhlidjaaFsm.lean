/-
  A row of frames that is written in place.
-/
import Derived.Test.YthlidbenhlidjaaFrf
namespace Go.Proofs.Ythlidbenhlidjaa
open Go.RowKit Go.Deep

/-- A frame's cells. -/
def Fr.cell (f : Fr) : Nat → Value
  | 0 => .int .u32 (f.id : Int)
  | 1 => .int .i64 f.k
  | 2 => .slice f.a f.n f.c
  | 3 => .int .i64 f.s
  | 4 => .int .i64 f.p
  | _ => .int .i64 f.d
/-- The block B holds m frames, and may be written. -/
def FsAt (w : World) (B m : Nat) (K : Nat → Fr) : Prop := w.rowIs B 25 (m * 6) (fun i => (K (i / 6)).cell (i % 6))
theorem FsAt.lt {w : World} {B m : Nat} {K : Nat → Fr} (h : FsAt w B m K) : B < w.heap.size := World.rowIs.lt h
theorem FsAt.congr {w : World} {B m : Nat} {K L : Nat → Fr} (h : FsAt w B m K) (e : ∀ i, i < m → K i = L i) : FsAt w B m L := World.rowIs.congr h fun i hi => by
  show (K (i / 6)).cell (i % 6) = (L (i / 6)).cell (i % 6)
  rw [e (i / 6) (by omega)]
theorem FsAt.block {w w' : World} {B m : Nat} {K : Nat → Fr} (h : FsAt w B m K) (e : w'.heap[B]? = w.heap[B]?) : FsAt w' B m K := World.rowIs.of_block h e
theorem FsAt.grew {w w' : World} {B m : Nat} {K : Nat → Fr} (h : FsAt w B m K) (hb : Below w.heap.size w w') : FsAt w' B m K := h.block (hb.block B h.lt)
theorem FsAt.cell {w : World} {B m : Nat} {K : Nat → Fr} (h : FsAt w B m K) (i j n : Nat) (hi : i < m) (hj : j < 6) (hn : n = i * 6 + j) : w.cell? ⟨B, n, none⟩ = some ((K i).cell j) := by
  subst hn
  have := World.rowIs.cell (i := i * 6 + j) h (by omega)
  simp only [show (i * 6 + j) / 6 = i by omega, show (i * 6 + j) % 6 = j by omega] at this
  exact this
theorem FsAt.frz {w : World} {B m : Nat} {K : Nat → Fr} (h : FsAt w B m K) (n : Nat) : w.frozen? ⟨B, n, none⟩ = false := World.rowIs.frozen h n
theorem FsAt.frs {w : World} {B m : Nat} {K : Nat → Fr} (h : FsAt w B m K) : FrsAt w (some ⟨B, 0, none⟩) m K := fun _ => ⟨B, 0, rfl, fun i hi =>
  ⟨h.cell i 0 _ hi (by decide) (by omega), h.cell i 1 _ hi (by decide) (by omega), h.cell i 2 _ hi (by decide) (by omega), h.cell i 3 _ hi (by decide) (by omega), h.cell i 4 _ hi (by decide) (by omega), h.cell i 5 _ hi (by decide) (by omega)⟩⟩
/-- One cell of one frame is written. -/
theorem FsAt.put {w : World} {B m : Nat} {K : Nat → Fr} (h : FsAt w B m K) (i j n : Nat) (v : Value) (g : Fr) (hj : j < 6) (hn : n = i * 6 + j) (hg : ∀ q, q < 6 → g.cell q = if q = j then v else (K i).cell q) : FsAt (w.setCell ⟨B, n, none⟩ v) B m (fun q => if q = i then g else K q) := by
  subst hn
  refine World.rowIs.congr (World.rowIs.set h (i * 6 + j) v) fun q hq => ?_
  show (if q = i * 6 + j then v else (K (q / 6)).cell (q % 6)) = (if q / 6 = i then g else K (q / 6)).cell (q % 6)
  by_cases e : q / 6 = i
  · subst e
    rw [if_pos rfl, hg (q % 6) (by omega)]
    by_cases e2 : q % 6 = j
    · rw [if_pos (by omega), if_pos e2]
    · rw [if_neg (by omega), if_neg e2]
  · rw [if_neg (by omega), if_neg e]
/-- One frame is written. -/
theorem FsAt.write {w : World} {B m : Nat} {K : Nat → Fr} (h : FsAt w B m K) (i n : Nat) (g : Fr) (hn : n = i * 6) :
    FsAt ((((((w.setCell ⟨B, n, none⟩ (.int .u32 (g.id : Int))).setCell ⟨B, n + 1, none⟩ (.int .i64 g.k)).setCell ⟨B, n + 2, none⟩ (.slice g.a g.n g.c)).setCell ⟨B, n + 3, none⟩ (.int .i64 g.s)).setCell ⟨B, n + 4, none⟩ (.int .i64 g.p)).setCell ⟨B, n + 5, none⟩ (.int .i64 g.d)) B m (fun q => if q = i then g else K q) := by
  subst hn
  refine World.rowIs.congr (World.rowIs.set (World.rowIs.set (World.rowIs.set (World.rowIs.set (World.rowIs.set (World.rowIs.set h (i * 6) _) (i * 6 + 1) _) (i * 6 + 2) _) (i * 6 + 3) _) (i * 6 + 4) _) (i * 6 + 5) _) fun q hq => ?_
  by_cases e : q / 6 = i
  · have hq : q = i * 6 ∨ q = i * 6 + 1 ∨ q = i * 6 + 2 ∨ q = i * 6 + 3 ∨ q = i * 6 + 4 ∨ q = i * 6 + 5 := by omega
    rcases hq with rfl | rfl | rfl | rfl | rfl | rfl
    · have e1 : i * 6 % 6 = 0 := by omega
      simp [e, e1, Fr.cell]
    · have e1 : (i * 6 + 1) % 6 = 1 := by omega
      simp [e, e1, Fr.cell]
    · have e1 : (i * 6 + 2) % 6 = 2 := by omega
      simp [e, e1, Fr.cell]
    · have e1 : (i * 6 + 3) % 6 = 3 := by omega
      simp [e, e1, Fr.cell]
    · have e1 : (i * 6 + 4) % 6 = 4 := by omega
      simp [e, e1, Fr.cell]
    · have e1 : (i * 6 + 5) % 6 = 5 := by omega
      simp [e, e1, Fr.cell]
  · rw [if_neg (by omega), if_neg (by omega), if_neg (by omega), if_neg (by omega), if_neg (by omega), if_neg (by omega)]
    show (K (q / 6)).cell (q % 6) = (if q / 6 = i then g else K (q / 6)).cell (q % 6)
    rw [if_neg e]
theorem Kept.write {R : Nat} {w w' : World} (h : Kept R w w') (n : Nat) (g : Fr) : Kept R w ((((((w'.setCell ⟨R, n, none⟩ (.int .u32 (g.id : Int))).setCell ⟨R, n + 1, none⟩ (.int .i64 g.k)).setCell ⟨R, n + 2, none⟩ (.slice g.a g.n g.c)).setCell ⟨R, n + 3, none⟩ (.int .i64 g.s)).setCell ⟨R, n + 4, none⟩ (.int .i64 g.p)).setCell ⟨R, n + 5, none⟩ (.int .i64 g.d)) :=
  ((((((h.trans (Kept.set _ _ _)).trans (Kept.set _ _ _)).trans (Kept.set _ _ _)).trans (Kept.set _ _ _)).trans (Kept.set _ _ _)).trans (Kept.set _ _ _))
theorem Try.infoFrame : (Try.prog.info? 25).map (fun i => (i.zero, i.size, i.bytes)) = some (some (.agg #[.int .u32 0, .int .i64 0, .slice none 0 0, .int .i64 0, .int .i64 0, .int .i64 0]), 6, 64) := by kernel_rfl
theorem make_frames (m : Nat) (w : World) (hm : m ≤ 1000) : (Instr.makeSlice 67 (.int .i64 (m : Int)) (.int .i64 (m : Int))).run Try.prog w = .ok (.slice (some ⟨w.heap.size, 0, none⟩) m m) (w.alloc (.cells (madeCells #[.int .u32 0, .int .i64 0, .slice none 0 0, .int .i64 0, .int .i64 0, .int .i64 0] (m * 6)) 25)) := by
  obtain ⟨i0, hi, hz0, hz1, hz2⟩ := info_parts Try.infoFrame
  have := run_makeSlice (P := Try.prog) w 67 25 i0 _ Try.underlying67 hi hz0 .i64 .i64 (m : Int) (m : Int) (by omega) (Int.le_refl _) (by rw [hz1]; simp; omega) (by rw [hz2]; omega) (by omega)
  rw [hz1] at this
  simpa [Value.cells] using this
theorem FsAt.made (w : World) (m : Nat) : FsAt (w.alloc (.cells (madeCells #[.int .u32 0, .int .i64 0, .slice none 0 0, .int .i64 0, .int .i64 0, .int .i64 0] (m * 6)) 25)) w.heap.size m (fun _ => Fr.zero) := by
  refine ⟨madeCells #[.int .u32 0, .int .i64 0, .slice none 0 0, .int .i64 0, .int .i64 0, .int .i64 0] (m * 6), heap_alloc_new w _, size_madeCells _ _, fun i hi => ?_⟩
  simp only [madeCells]
  simp [hi]
  have hq : i % 6 = 0 ∨ i % 6 = 1 ∨ i % 6 = 2 ∨ i % 6 = 3 ∨ i % 6 = 4 ∨ i % 6 = 5 := by omega
  rcases hq with e | e | e | e | e | e <;> rw [e] <;> rfl
end Go.Proofs.Ythlidbenhlidjaa

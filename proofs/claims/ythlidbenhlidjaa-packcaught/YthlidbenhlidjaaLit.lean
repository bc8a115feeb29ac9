/-
  Rows of bytes that are written out.
-/
import Derived.Test.YthlidbenhlidjaaMem
import Derived.Lib.SlBytesConst
namespace Go.Proofs.Ythlidbenhlidjaa
open Go.RowKit Go.Deep

theorem conv_const (w : World) (C : Array Value) (n c g : Nat) (h : g = w.heap.size) : (convert 26 26 (.slice (some ⟨g, 0, none⟩) n c)).run Try.prog (w.alloc (.cells C 5)) = .ok (.slice (some ⟨g, 0, none⟩) n c) (w.alloc (.cells C 5 (C.size, C.size + 1))) := by
  subst h
  exact Lib.run_convert_bytes_const w 26 5 C n c Try.underlying26 Try.underlying5

/-- A row of bytes that is written out. -/
theorem bytes_lit (w : World) (t : TypeId) (f : Nat × Nat) (l : List Nat) (hl : ∀ i, i < l.length → listAt l i < 256) : BytesAt (w.alloc (.cells (l.map fun (n : Nat) => Value.int .u8 (n : Int)).toArray t f)) (some ⟨w.heap.size, 0, none⟩) l.length (listAt l) := by
  refine ⟨fun _ => ⟨w.heap.size, 0, rfl, fun i hi => ?_⟩, hl⟩
  rw [Nat.zero_add, World.cell?_alloc_mark]
  simp [listAt, List.getD, hi]
end Go.Proofs.Ythlidbenhlidjaa

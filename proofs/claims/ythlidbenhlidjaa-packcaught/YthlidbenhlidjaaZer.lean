/-
  Two new blocks; a new row of noughts.
-/
import Derived.Test.YthlidbenhlidjaaMem
namespace Go.Proofs.Ythlidbenhlidjaa
open Go.RowKit Go.Deep

theorem below_two (w : World) (o1 o2 : Obj) : Below w.heap.size w ((w.alloc o1).alloc o2) := ((Below.refl _ _).alloc (Nat.le_refl _) _).alloc (by simp) _
theorem zeros_at (w : World) (n : Nat) : BytesAt (w.alloc (.cells (madeCells #[.int .u8 0] n) 5)) (some ⟨w.heap.size, 0, none⟩) n (fun _ => 0) := by
  have hr := World.rowIs_made w (.int .u8 0) n 5
  exact ⟨fun _ => ⟨_, 0, rfl, fun i hi => by rw [Nat.zero_add]; exact hr.cell hi⟩, fun _ _ => by decide⟩
end Go.Proofs.Ythlidbenhlidjaa

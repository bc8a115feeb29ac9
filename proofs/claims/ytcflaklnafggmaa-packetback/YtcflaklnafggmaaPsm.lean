/-
  Two packets, the same: the document's SamePacket.
-/
import Derived.Test.YtcflaklnafggmaaPkt
import Derived.Test.YtcflaklnafggmaaHsm
namespace Go.Proofs.Ytcflaklnafggmaa
open Go.RowKit Go.Deep

set_option maxRecDepth 100000 in
set_option maxHeartbeats 1000000 in
theorem psame_any (p : Pk) (r r' : Option Addr) (c c' : Nat) (w : World) (h : BytesAt w r p.n p.x) (h' : BytesAt w r' p.n p.x) :
    Calls Try.prog 14 #[.agg #[.int .i64 p.k, .int .u16 (p.s : Int), .int .u16 (p.t : Int), .int .u32 (p.f : Int), .int .u16 (p.y : Int), .slice r p.n c, .int .u64 (p.T : Int), .int .u32 (p.l : Int), .int .u32 (p.g : Int), .int .u16 (p.u : Int), .int .u16 (p.j : Int), .int .u32 (p.F : Int), .int .u16 (p.d : Int)], .agg #[.int .i64 p.k, .int .u16 (p.s : Int), .int .u16 (p.t : Int), .int .u32 (p.f : Int), .int .u16 (p.y : Int), .slice r' p.n c', .int .u64 (p.T : Int), .int .u32 (p.l : Int), .int .u32 (p.g : Int), .int .u16 (p.u : Int), .int .u16 (p.j : Int), .int .u32 (p.F : Int), .int .u16 (p.d : Int)]] w fun e w' => e = .returned (.bool true) ∧ Below w.heap.size w w' := by
  have b1 : Below w.heap.size w (w.alloc (.cells #[.int .i64 p.k, .int .u16 (p.s : Int), .int .u16 (p.t : Int), .int .u32 (p.f : Int), .int .u16 (p.y : Int), .slice r p.n c, .int .u64 (p.T : Int), .int .u32 (p.l : Int), .int .u32 (p.g : Int), .int .u16 (p.u : Int), .int .u16 (p.j : Int), .int .u32 (p.F : Int), .int .u16 (p.d : Int)] 31)) := (Below.refl _ _).alloc (Nat.le_refl _) _
  have s1 : (w.alloc (.cells #[.int .i64 p.k, .int .u16 (p.s : Int), .int .u16 (p.t : Int), .int .u32 (p.f : Int), .int .u16 (p.y : Int), .slice r p.n c, .int .u64 (p.T : Int), .int .u32 (p.l : Int), .int .u32 (p.g : Int), .int .u16 (p.u : Int), .int .u16 (p.j : Int), .int .u32 (p.F : Int), .int .u16 (p.d : Int)] 31)).heap.size = w.heap.size + 1 := by simp
  have a2 : Below (w.alloc (.cells #[.int .i64 p.k, .int .u16 (p.s : Int), .int .u16 (p.t : Int), .int .u32 (p.f : Int), .int .u16 (p.y : Int), .slice r p.n c, .int .u64 (p.T : Int), .int .u32 (p.l : Int), .int .u32 (p.g : Int), .int .u16 (p.u : Int), .int .u16 (p.j : Int), .int .u32 (p.F : Int), .int .u16 (p.d : Int)] 31)).heap.size (w.alloc (.cells #[.int .i64 p.k, .int .u16 (p.s : Int), .int .u16 (p.t : Int), .int .u32 (p.f : Int), .int .u16 (p.y : Int), .slice r p.n c, .int .u64 (p.T : Int), .int .u32 (p.l : Int), .int .u32 (p.g : Int), .int .u16 (p.u : Int), .int .u16 (p.j : Int), .int .u32 (p.F : Int), .int .u16 (p.d : Int)] 31)) ((w.alloc (.cells #[.int .i64 p.k, .int .u16 (p.s : Int), .int .u16 (p.t : Int), .int .u32 (p.f : Int), .int .u16 (p.y : Int), .slice r p.n c, .int .u64 (p.T : Int), .int .u32 (p.l : Int), .int .u32 (p.g : Int), .int .u16 (p.u : Int), .int .u16 (p.j : Int), .int .u32 (p.F : Int), .int .u16 (p.d : Int)] 31)).alloc (.cells #[.int .i64 p.k, .int .u16 (p.s : Int), .int .u16 (p.t : Int), .int .u32 (p.f : Int), .int .u16 (p.y : Int), .slice r' p.n c', .int .u64 (p.T : Int), .int .u32 (p.l : Int), .int .u32 (p.g : Int), .int .u16 (p.u : Int), .int .u16 (p.j : Int), .int .u32 (p.F : Int), .int .u16 (p.d : Int)] 31)) := (Below.refl _ _).alloc (Nat.le_refl _) _
  have D1 : Hid (PkAt ((w.alloc (.cells #[.int .i64 p.k, .int .u16 (p.s : Int), .int .u16 (p.t : Int), .int .u32 (p.f : Int), .int .u16 (p.y : Int), .slice r p.n c, .int .u64 (p.T : Int), .int .u32 (p.l : Int), .int .u32 (p.g : Int), .int .u16 (p.u : Int), .int .u16 (p.j : Int), .int .u32 (p.F : Int), .int .u16 (p.d : Int)] 31)).alloc (.cells #[.int .i64 p.k, .int .u16 (p.s : Int), .int .u16 (p.t : Int), .int .u32 (p.f : Int), .int .u16 (p.y : Int), .slice r' p.n c', .int .u64 (p.T : Int), .int .u32 (p.l : Int), .int .u32 (p.g : Int), .int .u16 (p.u : Int), .int .u16 (p.j : Int), .int .u32 (p.F : Int), .int .u16 (p.d : Int)] 31)) w.heap.size p r c) := (PkAt.made w 31 p r c).grew a2
  have D2 : Hid (PkAt ((w.alloc (.cells #[.int .i64 p.k, .int .u16 (p.s : Int), .int .u16 (p.t : Int), .int .u32 (p.f : Int), .int .u16 (p.y : Int), .slice r p.n c, .int .u64 (p.T : Int), .int .u32 (p.l : Int), .int .u32 (p.g : Int), .int .u16 (p.u : Int), .int .u16 (p.j : Int), .int .u32 (p.F : Int), .int .u16 (p.d : Int)] 31)).alloc (.cells #[.int .i64 p.k, .int .u16 (p.s : Int), .int .u16 (p.t : Int), .int .u32 (p.f : Int), .int .u16 (p.y : Int), .slice r' p.n c', .int .u64 (p.T : Int), .int .u32 (p.l : Int), .int .u32 (p.g : Int), .int .u16 (p.u : Int), .int .u16 (p.j : Int), .int .u32 (p.F : Int), .int .u16 (p.d : Int)] 31)) (w.heap.size + 1) p r' c') := by
    have := PkAt.made (w.alloc (.cells #[.int .i64 p.k, .int .u16 (p.s : Int), .int .u16 (p.t : Int), .int .u32 (p.f : Int), .int .u16 (p.y : Int), .slice r p.n c, .int .u64 (p.T : Int), .int .u32 (p.l : Int), .int .u32 (p.g : Int), .int .u16 (p.u : Int), .int .u16 (p.j : Int), .int .u32 (p.F : Int), .int .u16 (p.d : Int)] 31)) 31 p r' c'
    rwa [s1] at this
  have HB : Hid (Below w.heap.size w ((w.alloc (.cells #[.int .i64 p.k, .int .u16 (p.s : Int), .int .u16 (p.t : Int), .int .u32 (p.f : Int), .int .u16 (p.y : Int), .slice r p.n c, .int .u64 (p.T : Int), .int .u32 (p.l : Int), .int .u32 (p.g : Int), .int .u16 (p.u : Int), .int .u16 (p.j : Int), .int .u32 (p.F : Int), .int .u16 (p.d : Int)] 31)).alloc (.cells #[.int .i64 p.k, .int .u16 (p.s : Int), .int .u16 (p.t : Int), .int .u32 (p.f : Int), .int .u16 (p.y : Int), .slice r' p.n c', .int .u64 (p.T : Int), .int .u32 (p.l : Int), .int .u32 (p.g : Int), .int .u16 (p.u : Int), .int .u16 (p.j : Int), .int .u32 (p.F : Int), .int .u16 (p.d : Int)] 31))) := b1.trans (a2.mono b1.size)
  clear b1 s1 a2
  go_enter Try.func14, Try.ntmps14
  go_wp2_with fail
  generalize ((w.alloc (.cells #[.int .i64 p.k, .int .u16 (p.s : Int), .int .u16 (p.t : Int), .int .u32 (p.f : Int), .int .u16 (p.y : Int), .slice r p.n c, .int .u64 (p.T : Int), .int .u32 (p.l : Int), .int .u32 (p.g : Int), .int .u16 (p.u : Int), .int .u16 (p.j : Int), .int .u32 (p.F : Int), .int .u16 (p.d : Int)] 31)).alloc (.cells #[.int .i64 p.k, .int .u16 (p.s : Int), .int .u16 (p.t : Int), .int .u32 (p.f : Int), .int .u16 (p.y : Int), .slice r' p.n c', .int .u64 (p.T : Int), .int .u32 (p.l : Int), .int .u32 (p.g : Int), .int .u16 (p.u : Int), .int .u16 (p.j : Int), .int .u32 (p.F : Int), .int .u16 (p.d : Int)] 31)) = w2 at *
  refine (same_any p.s p.t p.f p.y p.n r r' c c' p.x w2 (h.grew HB.out) (h'.grew HB.out)).mono ?_
  rintro e w3 ⟨rfl, d3⟩
  have E1 := D1.out.grew d3
  have E2 := D2.out.grew d3
  have HA : Hid (Below w.heap.size w w3) := HB.out.trans (d3.mono HB.out.size)
  clear HB D1 D2
  have q6 : w3.cell? ⟨w.heap.size, 6, none⟩ = some (.int .u64 (p.T : Int)) := E1.cell 6 (by decide)
  have q7 : w3.cell? ⟨w.heap.size, 7, none⟩ = some (.int .u32 (p.l : Int)) := E1.cell 7 (by decide)
  have q8 : w3.cell? ⟨w.heap.size, 8, none⟩ = some (.int .u32 (p.g : Int)) := E1.cell 8 (by decide)
  have q9 : w3.cell? ⟨w.heap.size, 9, none⟩ = some (.int .u16 (p.u : Int)) := E1.cell 9 (by decide)
  have q10 : w3.cell? ⟨w.heap.size, 10, none⟩ = some (.int .u16 (p.j : Int)) := E1.cell 10 (by decide)
  have q11 : w3.cell? ⟨w.heap.size, 11, none⟩ = some (.int .u32 (p.F : Int)) := E1.cell 11 (by decide)
  have q12 : w3.cell? ⟨w.heap.size, 12, none⟩ = some (.int .u16 (p.d : Int)) := E1.cell 12 (by decide)
  have g6 : w3.cell? ⟨w.heap.size + 1, 6, none⟩ = some (.int .u64 (p.T : Int)) := E2.cell 6 (by decide)
  have g7 : w3.cell? ⟨w.heap.size + 1, 7, none⟩ = some (.int .u32 (p.l : Int)) := E2.cell 7 (by decide)
  have g8 : w3.cell? ⟨w.heap.size + 1, 8, none⟩ = some (.int .u32 (p.g : Int)) := E2.cell 8 (by decide)
  have g9 : w3.cell? ⟨w.heap.size + 1, 9, none⟩ = some (.int .u16 (p.u : Int)) := E2.cell 9 (by decide)
  have g10 : w3.cell? ⟨w.heap.size + 1, 10, none⟩ = some (.int .u16 (p.j : Int)) := E2.cell 10 (by decide)
  have g11 : w3.cell? ⟨w.heap.size + 1, 11, none⟩ = some (.int .u32 (p.F : Int)) := E2.cell 11 (by decide)
  have g12 : w3.cell? ⟨w.heap.size + 1, 12, none⟩ = some (.int .u16 (p.d : Int)) := E2.cell 12 (by decide)
  clear E1 E2 d3
  go_wp2
  go_ret
  exact ⟨rfl, HA.out⟩
end Go.Proofs.Ytcflaklnafggmaa

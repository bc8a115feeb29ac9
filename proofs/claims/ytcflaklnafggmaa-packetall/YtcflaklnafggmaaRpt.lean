/-
  The document's Take of a packet.
-/
import Derived.Test.YtcflaklnafggmaaPta
import Derived.Test.YtcflaklnafggmaaHdt
import Derived.Test.YtcflaklnafggmaaBdr
import Derived.Test.YtcflaklnafggmaaRse
namespace Go.Proofs.Ytcflaklnafggmaa
open Go.RowKit Go.Deep

theorem PkAt.below {w w' : World} {B N : Nat} {p : Pk} {r : Option Addr} {c : Nat} (h : PkAt w B p r c) (hb : Below N w w') (hN : B < N) : PkAt w' B p r c :=
  ⟨fun i hi => (hb.cell (p := ⟨B, i, none⟩) hN).trans (h.cell i hi), fun i => (World.frozen?_of_block (a := ⟨B, i, none⟩) (hb.block B hN)).trans (h.frz i)⟩

set_option maxRecDepth 100000 in
set_option maxHeartbeats 2000000 in
theorem rpt_shut (a : Option Addr) (L c : Nat) (x : Nat → Nat) (w : World) (hx : BytesAt w a L x) (hc : L ≤ c) (hn : L ≤ 100000) (h0 : opB x L = false) :
    Calls Try.prog 12 #[.slice a L c] w fun e w' => TkIs w L x e w' := by
  have V1 : Hid (PkAt (w.alloc (.cells #[.int .i64 0, .int .u16 0, .int .u16 0, .int .u32 0, .int .u16 0, .slice none 0 0, .int .u64 0, .int .u32 0, .int .u32 0, .int .u16 0, .int .u16 0, .int .u32 0, .int .u16 0] 31)) w.heap.size Pk.zero none 0) := PkAt.made w _ Pk.zero none 0
  have b1 : Hid (Below w.heap.size w (w.alloc (.cells #[.int .i64 0, .int .u16 0, .int .u16 0, .int .u32 0, .int .u16 0, .slice none 0 0, .int .u64 0, .int .u32 0, .int .u32 0, .int .u16 0, .int .u16 0, .int .u32 0, .int .u16 0] 31))) := (Below.refl _ _).alloc (Nat.le_refl _) _
  have HX : Hid (BytesAt w a L x) := hx
  clear hx
  go_enter Try.func12, Try.ntmps12
  go_wp2_with fail
  generalize (w.alloc (.cells #[.int .i64 0, .int .u16 0, .int .u16 0, .int .u32 0, .int .u16 0, .slice none 0 0, .int .u64 0, .int .u32 0, .int .u32 0, .int .u16 0, .int .u16 0, .int .u32 0, .int .u16 0] 31)) = w2 at *
  refine (ropen_any a L c x w2 (HX.out.grew b1.out) hc hn).mono ?_
  intro e w3 h
  rw [h0, (show opN x L = 0 by unfold opN; rw [h0]; rfl)] at h
  obtain ⟨r3, c3, rfl, k1, -, k3, k4, d3⟩ := h
  have V3 := V1.out.grew d3
  have b3 := b1.out.trans (d3.mono b1.out.size)
  clear V1 b1 d3
  clear k1 k3 k4
  have q0 : w3.cell? ⟨w.heap.size, 0, none⟩ = some (.int .i64 0) := V3.cell 0 (by decide)
  have q1 : w3.cell? ⟨w.heap.size, 1, none⟩ = some (.int .u16 0) := V3.cell 1 (by decide)
  have q2 : w3.cell? ⟨w.heap.size, 2, none⟩ = some (.int .u16 0) := V3.cell 2 (by decide)
  have q3 : w3.cell? ⟨w.heap.size, 3, none⟩ = some (.int .u32 0) := V3.cell 3 (by decide)
  have q4 : w3.cell? ⟨w.heap.size, 4, none⟩ = some (.int .u16 0) := V3.cell 4 (by decide)
  have q5 : w3.cell? ⟨w.heap.size, 5, none⟩ = some (.slice none 0 0) := V3.cell 5 (by decide)
  have q6 : w3.cell? ⟨w.heap.size, 6, none⟩ = some (.int .u64 0) := V3.cell 6 (by decide)
  have q7 : w3.cell? ⟨w.heap.size, 7, none⟩ = some (.int .u32 0) := V3.cell 7 (by decide)
  have q8 : w3.cell? ⟨w.heap.size, 8, none⟩ = some (.int .u32 0) := V3.cell 8 (by decide)
  have q9 : w3.cell? ⟨w.heap.size, 9, none⟩ = some (.int .u16 0) := V3.cell 9 (by decide)
  have q10 : w3.cell? ⟨w.heap.size, 10, none⟩ = some (.int .u16 0) := V3.cell 10 (by decide)
  have q11 : w3.cell? ⟨w.heap.size, 11, none⟩ = some (.int .u32 0) := V3.cell 11 (by decide)
  have q12 : w3.cell? ⟨w.heap.size, 12, none⟩ = some (.int .u16 0) := V3.cell 12 (by decide)
  have z0 := V3.frz 0
  have z1 := V3.frz 1
  have z2 := V3.frz 2
  have z3 := V3.frz 3
  have z4 := V3.frz 4
  have z5 := V3.frz 5
  have z6 := V3.frz 6
  have z7 := V3.frz 7
  have z8 := V3.frz 8
  have z9 := V3.frz 9
  have z10 := V3.frz 10
  have z11 := V3.frz 11
  have z12 := V3.frz 12
  have D9 : Hid (PkAt (((((((((((((w3.setCell ⟨w.heap.size, 0, none⟩ (.int .i64 0)).setCell ⟨w.heap.size, 1, none⟩ (.int .u16 0)).setCell ⟨w.heap.size, 2, none⟩ (.int .u16 0)).setCell ⟨w.heap.size, 3, none⟩ (.int .u32 0)).setCell ⟨w.heap.size, 4, none⟩ (.int .u16 0)).setCell ⟨w.heap.size, 5, none⟩ (.slice none 0 0)).setCell ⟨w.heap.size, 6, none⟩ (.int .u64 0)).setCell ⟨w.heap.size, 7, none⟩ (.int .u32 0)).setCell ⟨w.heap.size, 8, none⟩ (.int .u32 0)).setCell ⟨w.heap.size, 9, none⟩ (.int .u16 0)).setCell ⟨w.heap.size, 10, none⟩ (.int .u16 0)).setCell ⟨w.heap.size, 11, none⟩ (.int .u32 0)).setCell ⟨w.heap.size, 12, none⟩ (.int .u16 0)) w.heap.size Pk.zero none 0) := V3.write Pk.zero none 0
  have HA : Hid (TkIs w L x (.returned (.tuple #[.agg #[.int .i64 0, .int .u16 0, .int .u16 0, .int .u32 0, .int .u16 0, .slice none 0 0, .int .u64 0, .int .u32 0, .int .u32 0, .int .u16 0, .int .u16 0, .int .u32 0, .int .u16 0], .int .i64 3])) (((((((((((((w3.setCell ⟨w.heap.size, 0, none⟩ (.int .i64 0)).setCell ⟨w.heap.size, 1, none⟩ (.int .u16 0)).setCell ⟨w.heap.size, 2, none⟩ (.int .u16 0)).setCell ⟨w.heap.size, 3, none⟩ (.int .u32 0)).setCell ⟨w.heap.size, 4, none⟩ (.int .u16 0)).setCell ⟨w.heap.size, 5, none⟩ (.slice none 0 0)).setCell ⟨w.heap.size, 6, none⟩ (.int .u64 0)).setCell ⟨w.heap.size, 7, none⟩ (.int .u32 0)).setCell ⟨w.heap.size, 8, none⟩ (.int .u32 0)).setCell ⟨w.heap.size, 9, none⟩ (.int .u16 0)).setCell ⟨w.heap.size, 10, none⟩ (.int .u16 0)).setCell ⟨w.heap.size, 11, none⟩ (.int .u32 0)).setCell ⟨w.heap.size, 12, none⟩ (.int .u16 0))) := TkIs.shut h0 (puts_below (Nat.le_refl _) [.int .i64 0, .int .u16 0, .int .u16 0, .int .u32 0, .int .u16 0, .slice none 0 0, .int .u64 0, .int .u32 0, .int .u32 0, .int .u16 0, .int .u16 0, .int .u32 0, .int .u16 0] 0 b3)
  clear V3 b3
  go_wp2
  generalize (((((((((((((w3.setCell ⟨w.heap.size, 0, none⟩ (.int .i64 0)).setCell ⟨w.heap.size, 1, none⟩ (.int .u16 0)).setCell ⟨w.heap.size, 2, none⟩ (.int .u16 0)).setCell ⟨w.heap.size, 3, none⟩ (.int .u32 0)).setCell ⟨w.heap.size, 4, none⟩ (.int .u16 0)).setCell ⟨w.heap.size, 5, none⟩ (.slice none 0 0)).setCell ⟨w.heap.size, 6, none⟩ (.int .u64 0)).setCell ⟨w.heap.size, 7, none⟩ (.int .u32 0)).setCell ⟨w.heap.size, 8, none⟩ (.int .u32 0)).setCell ⟨w.heap.size, 9, none⟩ (.int .u16 0)).setCell ⟨w.heap.size, 10, none⟩ (.int .u16 0)).setCell ⟨w.heap.size, 11, none⟩ (.int .u32 0)).setCell ⟨w.heap.size, 12, none⟩ (.int .u16 0)) = w9 at *
  clear q0 q1 q2 q3 q4 q5 q6 q7 q8 q9 q10 q11 q12 z0 z1 z2 z3 z4 z5 z6 z7 z8 z9 z10 z11 z12
  have s0 : w9.cell? ⟨w.heap.size, 0, none⟩ = some (.int .i64 0) := D9.out.cell 0 (by decide)
  have s1 : w9.cell? ⟨w.heap.size, 1, none⟩ = some (.int .u16 0) := D9.out.cell 1 (by decide)
  have s2 : w9.cell? ⟨w.heap.size, 2, none⟩ = some (.int .u16 0) := D9.out.cell 2 (by decide)
  have s3 : w9.cell? ⟨w.heap.size, 3, none⟩ = some (.int .u32 0) := D9.out.cell 3 (by decide)
  have s4 : w9.cell? ⟨w.heap.size, 4, none⟩ = some (.int .u16 0) := D9.out.cell 4 (by decide)
  have s5 : w9.cell? ⟨w.heap.size, 5, none⟩ = some (.slice none 0 0) := D9.out.cell 5 (by decide)
  have s6 : w9.cell? ⟨w.heap.size, 6, none⟩ = some (.int .u64 0) := D9.out.cell 6 (by decide)
  have s7 : w9.cell? ⟨w.heap.size, 7, none⟩ = some (.int .u32 0) := D9.out.cell 7 (by decide)
  have s8 : w9.cell? ⟨w.heap.size, 8, none⟩ = some (.int .u32 0) := D9.out.cell 8 (by decide)
  have s9 : w9.cell? ⟨w.heap.size, 9, none⟩ = some (.int .u16 0) := D9.out.cell 9 (by decide)
  have s10 : w9.cell? ⟨w.heap.size, 10, none⟩ = some (.int .u16 0) := D9.out.cell 10 (by decide)
  have s11 : w9.cell? ⟨w.heap.size, 11, none⟩ = some (.int .u32 0) := D9.out.cell 11 (by decide)
  have s12 : w9.cell? ⟨w.heap.size, 12, none⟩ = some (.int .u16 0) := D9.out.cell 12 (by decide)
  refine bodyPost_ret (v := .tuple #[.agg #[.int .i64 0, .int .u16 0, .int .u16 0, .int .u32 0, .int .u16 0, .slice none 0 0, .int .u64 0, .int .u32 0, .int .u32 0, .int .u16 0, .int .u16 0, .int .u32 0, .int .u16 0], .int .i64 3]) ?_ rfl HA.out
  simp [results, Try.results12, go_sem, s0, s1, s2, s3, s4, s5, s6, s7, s8, s9, s10, s11, s12]

set_option maxRecDepth 100000 in
set_option maxHeartbeats 2000000 in
theorem rpt_bare (a : Option Addr) (L c : Nat) (x : Nat → Nat) (w : World) (hx : BytesAt w a L x) (hc : L ≤ c) (hn : L ≤ 100000) (h0 : opB x L = true) (h1 : opN x L = 0) :
    Calls Try.prog 12 #[.slice a L c] w fun e w' => TkIs w L x e w' := by
  have V1 : Hid (PkAt (w.alloc (.cells #[.int .i64 0, .int .u16 0, .int .u16 0, .int .u32 0, .int .u16 0, .slice none 0 0, .int .u64 0, .int .u32 0, .int .u32 0, .int .u16 0, .int .u16 0, .int .u32 0, .int .u16 0] 31)) w.heap.size Pk.zero none 0) := PkAt.made w _ Pk.zero none 0
  have b1 : Hid (Below w.heap.size w (w.alloc (.cells #[.int .i64 0, .int .u16 0, .int .u16 0, .int .u32 0, .int .u16 0, .slice none 0 0, .int .u64 0, .int .u32 0, .int .u32 0, .int .u16 0, .int .u16 0, .int .u32 0, .int .u16 0] 31))) := (Below.refl _ _).alloc (Nat.le_refl _) _
  have HX : Hid (BytesAt w a L x) := hx
  clear hx
  go_enter Try.func12, Try.ntmps12
  go_wp2_with fail
  generalize (w.alloc (.cells #[.int .i64 0, .int .u16 0, .int .u16 0, .int .u32 0, .int .u16 0, .slice none 0 0, .int .u64 0, .int .u32 0, .int .u32 0, .int .u16 0, .int .u16 0, .int .u32 0, .int .u16 0] 31)) = w2 at *
  refine (ropen_any a L c x w2 (HX.out.grew b1.out) hc hn).mono ?_
  intro e w3 h
  rw [h0, h1] at h
  obtain ⟨r3, c3, rfl, k1, -, k3, k4, d3⟩ := h
  have V3 := V1.out.grew d3
  have b3 := b1.out.trans (d3.mono b1.out.size)
  clear V1 b1 d3
  clear k1 k3 k4
  have q0 : w3.cell? ⟨w.heap.size, 0, none⟩ = some (.int .i64 0) := V3.cell 0 (by decide)
  have q1 : w3.cell? ⟨w.heap.size, 1, none⟩ = some (.int .u16 0) := V3.cell 1 (by decide)
  have q2 : w3.cell? ⟨w.heap.size, 2, none⟩ = some (.int .u16 0) := V3.cell 2 (by decide)
  have q3 : w3.cell? ⟨w.heap.size, 3, none⟩ = some (.int .u32 0) := V3.cell 3 (by decide)
  have q4 : w3.cell? ⟨w.heap.size, 4, none⟩ = some (.int .u16 0) := V3.cell 4 (by decide)
  have q5 : w3.cell? ⟨w.heap.size, 5, none⟩ = some (.slice none 0 0) := V3.cell 5 (by decide)
  have q6 : w3.cell? ⟨w.heap.size, 6, none⟩ = some (.int .u64 0) := V3.cell 6 (by decide)
  have q7 : w3.cell? ⟨w.heap.size, 7, none⟩ = some (.int .u32 0) := V3.cell 7 (by decide)
  have q8 : w3.cell? ⟨w.heap.size, 8, none⟩ = some (.int .u32 0) := V3.cell 8 (by decide)
  have q9 : w3.cell? ⟨w.heap.size, 9, none⟩ = some (.int .u16 0) := V3.cell 9 (by decide)
  have q10 : w3.cell? ⟨w.heap.size, 10, none⟩ = some (.int .u16 0) := V3.cell 10 (by decide)
  have q11 : w3.cell? ⟨w.heap.size, 11, none⟩ = some (.int .u32 0) := V3.cell 11 (by decide)
  have q12 : w3.cell? ⟨w.heap.size, 12, none⟩ = some (.int .u16 0) := V3.cell 12 (by decide)
  have z0 := V3.frz 0
  have z1 := V3.frz 1
  have z2 := V3.frz 2
  have z3 := V3.frz 3
  have z4 := V3.frz 4
  have z5 := V3.frz 5
  have z6 := V3.frz 6
  have z7 := V3.frz 7
  have z8 := V3.frz 8
  have z9 := V3.frz 9
  have z10 := V3.frz 10
  have z11 := V3.frz 11
  have z12 := V3.frz 12
  have D9 : Hid (PkAt (((((((((((((w3.setCell ⟨w.heap.size, 0, none⟩ (.int .i64 0)).setCell ⟨w.heap.size, 1, none⟩ (.int .u16 0)).setCell ⟨w.heap.size, 2, none⟩ (.int .u16 0)).setCell ⟨w.heap.size, 3, none⟩ (.int .u32 0)).setCell ⟨w.heap.size, 4, none⟩ (.int .u16 0)).setCell ⟨w.heap.size, 5, none⟩ (.slice none 0 0)).setCell ⟨w.heap.size, 6, none⟩ (.int .u64 0)).setCell ⟨w.heap.size, 7, none⟩ (.int .u32 0)).setCell ⟨w.heap.size, 8, none⟩ (.int .u32 0)).setCell ⟨w.heap.size, 9, none⟩ (.int .u16 0)).setCell ⟨w.heap.size, 10, none⟩ (.int .u16 0)).setCell ⟨w.heap.size, 11, none⟩ (.int .u32 0)).setCell ⟨w.heap.size, 12, none⟩ (.int .u16 0)) w.heap.size Pk.zero none 0) := V3.write Pk.zero none 0
  have HA : Hid (TkIs w L x (.returned (.tuple #[.agg #[.int .i64 0, .int .u16 0, .int .u16 0, .int .u32 0, .int .u16 0, .slice none 0 0, .int .u64 0, .int .u32 0, .int .u32 0, .int .u16 0, .int .u16 0, .int .u32 0, .int .u16 0], .int .i64 2])) (((((((((((((w3.setCell ⟨w.heap.size, 0, none⟩ (.int .i64 0)).setCell ⟨w.heap.size, 1, none⟩ (.int .u16 0)).setCell ⟨w.heap.size, 2, none⟩ (.int .u16 0)).setCell ⟨w.heap.size, 3, none⟩ (.int .u32 0)).setCell ⟨w.heap.size, 4, none⟩ (.int .u16 0)).setCell ⟨w.heap.size, 5, none⟩ (.slice none 0 0)).setCell ⟨w.heap.size, 6, none⟩ (.int .u64 0)).setCell ⟨w.heap.size, 7, none⟩ (.int .u32 0)).setCell ⟨w.heap.size, 8, none⟩ (.int .u32 0)).setCell ⟨w.heap.size, 9, none⟩ (.int .u16 0)).setCell ⟨w.heap.size, 10, none⟩ (.int .u16 0)).setCell ⟨w.heap.size, 11, none⟩ (.int .u32 0)).setCell ⟨w.heap.size, 12, none⟩ (.int .u16 0))) := TkIs.form h0 (tk_bare h1) (puts_below (Nat.le_refl _) [.int .i64 0, .int .u16 0, .int .u16 0, .int .u32 0, .int .u16 0, .slice none 0 0, .int .u64 0, .int .u32 0, .int .u32 0, .int .u16 0, .int .u16 0, .int .u32 0, .int .u16 0] 0 b3)
  clear V3 b3
  go_wp2
  generalize (((((((((((((w3.setCell ⟨w.heap.size, 0, none⟩ (.int .i64 0)).setCell ⟨w.heap.size, 1, none⟩ (.int .u16 0)).setCell ⟨w.heap.size, 2, none⟩ (.int .u16 0)).setCell ⟨w.heap.size, 3, none⟩ (.int .u32 0)).setCell ⟨w.heap.size, 4, none⟩ (.int .u16 0)).setCell ⟨w.heap.size, 5, none⟩ (.slice none 0 0)).setCell ⟨w.heap.size, 6, none⟩ (.int .u64 0)).setCell ⟨w.heap.size, 7, none⟩ (.int .u32 0)).setCell ⟨w.heap.size, 8, none⟩ (.int .u32 0)).setCell ⟨w.heap.size, 9, none⟩ (.int .u16 0)).setCell ⟨w.heap.size, 10, none⟩ (.int .u16 0)).setCell ⟨w.heap.size, 11, none⟩ (.int .u32 0)).setCell ⟨w.heap.size, 12, none⟩ (.int .u16 0)) = w9 at *
  clear q0 q1 q2 q3 q4 q5 q6 q7 q8 q9 q10 q11 q12 z0 z1 z2 z3 z4 z5 z6 z7 z8 z9 z10 z11 z12
  have s0 : w9.cell? ⟨w.heap.size, 0, none⟩ = some (.int .i64 0) := D9.out.cell 0 (by decide)
  have s1 : w9.cell? ⟨w.heap.size, 1, none⟩ = some (.int .u16 0) := D9.out.cell 1 (by decide)
  have s2 : w9.cell? ⟨w.heap.size, 2, none⟩ = some (.int .u16 0) := D9.out.cell 2 (by decide)
  have s3 : w9.cell? ⟨w.heap.size, 3, none⟩ = some (.int .u32 0) := D9.out.cell 3 (by decide)
  have s4 : w9.cell? ⟨w.heap.size, 4, none⟩ = some (.int .u16 0) := D9.out.cell 4 (by decide)
  have s5 : w9.cell? ⟨w.heap.size, 5, none⟩ = some (.slice none 0 0) := D9.out.cell 5 (by decide)
  have s6 : w9.cell? ⟨w.heap.size, 6, none⟩ = some (.int .u64 0) := D9.out.cell 6 (by decide)
  have s7 : w9.cell? ⟨w.heap.size, 7, none⟩ = some (.int .u32 0) := D9.out.cell 7 (by decide)
  have s8 : w9.cell? ⟨w.heap.size, 8, none⟩ = some (.int .u32 0) := D9.out.cell 8 (by decide)
  have s9 : w9.cell? ⟨w.heap.size, 9, none⟩ = some (.int .u16 0) := D9.out.cell 9 (by decide)
  have s10 : w9.cell? ⟨w.heap.size, 10, none⟩ = some (.int .u16 0) := D9.out.cell 10 (by decide)
  have s11 : w9.cell? ⟨w.heap.size, 11, none⟩ = some (.int .u32 0) := D9.out.cell 11 (by decide)
  have s12 : w9.cell? ⟨w.heap.size, 12, none⟩ = some (.int .u16 0) := D9.out.cell 12 (by decide)
  refine bodyPost_ret (v := .tuple #[.agg #[.int .i64 0, .int .u16 0, .int .u16 0, .int .u32 0, .int .u16 0, .slice none 0 0, .int .u64 0, .int .u32 0, .int .u32 0, .int .u16 0, .int .u16 0, .int .u32 0, .int .u16 0], .int .i64 2]) ?_ rfl HA.out
  simp [results, Try.results12, go_sem, s0, s1, s2, s3, s4, s5, s6, s7, s8, s9, s10, s11, s12]

set_option maxRecDepth 100000 in
set_option maxHeartbeats 2000000 in
theorem rpt_kind (a : Option Addr) (L c : Nat) (x : Nat → Nat) (w : World) (hx : BytesAt w a L x) (hc : L ≤ c) (hn : L ≤ 100000) (m : Nat) (h0 : opB x L = true) (h1 : opN x L = m + 1) (k : Nat) (hk : x 0 = k) (hK : ¬ (1 ≤ k ∧ k ≤ 4)) :
    Calls Try.prog 12 #[.slice a L c] w fun e w' => TkIs w L x e w' := by
  have V1 : Hid (PkAt (w.alloc (.cells #[.int .i64 0, .int .u16 0, .int .u16 0, .int .u32 0, .int .u16 0, .slice none 0 0, .int .u64 0, .int .u32 0, .int .u32 0, .int .u16 0, .int .u16 0, .int .u32 0, .int .u16 0] 31)) w.heap.size Pk.zero none 0) := PkAt.made w _ Pk.zero none 0
  have b1 : Hid (Below w.heap.size w (w.alloc (.cells #[.int .i64 0, .int .u16 0, .int .u16 0, .int .u32 0, .int .u16 0, .slice none 0 0, .int .u64 0, .int .u32 0, .int .u32 0, .int .u16 0, .int .u16 0, .int .u32 0, .int .u16 0] 31))) := (Below.refl _ _).alloc (Nat.le_refl _) _
  have HX : Hid (BytesAt w a L x) := hx
  clear hx
  go_enter Try.func12, Try.ntmps12
  go_wp2_with fail
  generalize (w.alloc (.cells #[.int .i64 0, .int .u16 0, .int .u16 0, .int .u32 0, .int .u16 0, .slice none 0 0, .int .u64 0, .int .u32 0, .int .u32 0, .int .u16 0, .int .u16 0, .int .u32 0, .int .u16 0] 31)) = w2 at *
  refine (ropen_any a L c x w2 (HX.out.grew b1.out) hc hn).mono ?_
  intro e w3 h
  rw [h0, h1] at h
  obtain ⟨r3, c3, rfl, k1, -, k3, k4, d3⟩ := h
  have V3 := V1.out.grew d3
  have b3 := b1.out.trans (d3.mono b1.out.size)
  clear V1 b1 d3
  obtain ⟨g3, rfl, -⟩ := k3 (by omega)
  have q := bytes_cell k4 0 (by omega)
  rw [Nat.add_zero] at q
  have lk := k4.lt 0 (by omega)
  obtain ⟨a5, hsl, B5⟩ := slice_left (some ⟨g3, 0, none⟩) (m + 1) c3 1 x w3 k4 (by omega) (by omega) k1
  rw [Nat.add_sub_cancel] at hsl B5
  have hsl : ∀ W, (Instr.slice 24 (.slice (some ⟨g3, 0, none⟩) (m + 1) c3) (some (.int .i64 1)) none none).run Try.prog W = .ok (.slice a5 m (c3 - 1)) W := hsl
  clear k3 k4
  rw [hk] at q lk
  have q : w3.cell? ⟨g3, 0, none⟩ = some (.int .u8 (k : Int)) := q
  have a4 : Below w3.heap.size w3 (w3.alloc (.cells #[.int .i64 (k : Int), .int .u16 0, .int .u16 0, .int .u32 0, .int .u16 0, .slice none 0 0, .int .u64 0, .int .u32 0, .int .u32 0, .int .u16 0, .int .u16 0, .int .u32 0, .int .u16 0] 31)) := (Below.refl _ _).alloc (Nat.le_refl _) _
  have HV : Hid (PkAt (w3.alloc (.cells #[.int .i64 (k : Int), .int .u16 0, .int .u16 0, .int .u32 0, .int .u16 0, .slice none 0 0, .int .u64 0, .int .u32 0, .int .u32 0, .int .u16 0, .int .u16 0, .int .u32 0, .int .u16 0] 31)) w.heap.size Pk.zero none 0) := V3.grew a4
  have HB : Hid (Below w.heap.size w (w3.alloc (.cells #[.int .i64 (k : Int), .int .u16 0, .int .u16 0, .int .u32 0, .int .u16 0, .slice none 0 0, .int .u64 0, .int .u32 0, .int .u32 0, .int .u16 0, .int .u16 0, .int .u32 0, .int .u16 0] 31))) := b3.trans (a4.mono b3.size)
  have HY : Hid (BytesAt (w3.alloc (.cells #[.int .i64 (k : Int), .int .u16 0, .int .u16 0, .int .u32 0, .int .u16 0, .slice none 0 0, .int .u64 0, .int .u32 0, .int .u32 0, .int .u16 0, .int .u16 0, .int .u32 0, .int .u16 0] 31)) a5 m (fun i => x (1 + i))) := B5.grew a4
  have HD : Hid (PkAt (w3.alloc (.cells #[.int .i64 (k : Int), .int .u16 0, .int .u16 0, .int .u32 0, .int .u16 0, .slice none 0 0, .int .u64 0, .int .u32 0, .int .u32 0, .int .u16 0, .int .u16 0, .int .u32 0, .int .u16 0] 31)) w3.heap.size (pKind (k : Int)) none 0) := PkAt.made w3 31 (pKind (k : Int)) none 0
  have HG : Hid (w.heap.size < w3.heap.size) := V3.lt
  have HK : Hid (x 0 = k) := hk
  have hc3 : Hid (m ≤ c3 - 1) := by show _ ≤ _; omega
  have i1 : (0 : Int) < (m : Int) + 1 := by omega
  have i2 : ((m : Int) + 1 == 0) = false := by simp; omega
  clear V3 b3 a4 B5 hk
  have j1 : ((k : Int) == 1) = false := by simp; omega
  have j2 : ((k : Int) == 2) = false := by simp; omega
  have j3 : ((k : Int) == 3) = false := by simp; omega
  have j4 : ((k : Int) == 4) = false := by simp; omega
  have V4 := HV.out
  have b4 := HB.out
  clear HV HB HD HY
  have q0 : (w3.alloc (.cells #[.int .i64 (k : Int), .int .u16 0, .int .u16 0, .int .u32 0, .int .u16 0, .slice none 0 0, .int .u64 0, .int .u32 0, .int .u32 0, .int .u16 0, .int .u16 0, .int .u32 0, .int .u16 0] 31)).cell? ⟨w.heap.size, 0, none⟩ = some (.int .i64 0) := V4.cell 0 (by decide)
  have q1 : (w3.alloc (.cells #[.int .i64 (k : Int), .int .u16 0, .int .u16 0, .int .u32 0, .int .u16 0, .slice none 0 0, .int .u64 0, .int .u32 0, .int .u32 0, .int .u16 0, .int .u16 0, .int .u32 0, .int .u16 0] 31)).cell? ⟨w.heap.size, 1, none⟩ = some (.int .u16 0) := V4.cell 1 (by decide)
  have q2 : (w3.alloc (.cells #[.int .i64 (k : Int), .int .u16 0, .int .u16 0, .int .u32 0, .int .u16 0, .slice none 0 0, .int .u64 0, .int .u32 0, .int .u32 0, .int .u16 0, .int .u16 0, .int .u32 0, .int .u16 0] 31)).cell? ⟨w.heap.size, 2, none⟩ = some (.int .u16 0) := V4.cell 2 (by decide)
  have q3 : (w3.alloc (.cells #[.int .i64 (k : Int), .int .u16 0, .int .u16 0, .int .u32 0, .int .u16 0, .slice none 0 0, .int .u64 0, .int .u32 0, .int .u32 0, .int .u16 0, .int .u16 0, .int .u32 0, .int .u16 0] 31)).cell? ⟨w.heap.size, 3, none⟩ = some (.int .u32 0) := V4.cell 3 (by decide)
  have q4 : (w3.alloc (.cells #[.int .i64 (k : Int), .int .u16 0, .int .u16 0, .int .u32 0, .int .u16 0, .slice none 0 0, .int .u64 0, .int .u32 0, .int .u32 0, .int .u16 0, .int .u16 0, .int .u32 0, .int .u16 0] 31)).cell? ⟨w.heap.size, 4, none⟩ = some (.int .u16 0) := V4.cell 4 (by decide)
  have q5 : (w3.alloc (.cells #[.int .i64 (k : Int), .int .u16 0, .int .u16 0, .int .u32 0, .int .u16 0, .slice none 0 0, .int .u64 0, .int .u32 0, .int .u32 0, .int .u16 0, .int .u16 0, .int .u32 0, .int .u16 0] 31)).cell? ⟨w.heap.size, 5, none⟩ = some (.slice none 0 0) := V4.cell 5 (by decide)
  have q6 : (w3.alloc (.cells #[.int .i64 (k : Int), .int .u16 0, .int .u16 0, .int .u32 0, .int .u16 0, .slice none 0 0, .int .u64 0, .int .u32 0, .int .u32 0, .int .u16 0, .int .u16 0, .int .u32 0, .int .u16 0] 31)).cell? ⟨w.heap.size, 6, none⟩ = some (.int .u64 0) := V4.cell 6 (by decide)
  have q7 : (w3.alloc (.cells #[.int .i64 (k : Int), .int .u16 0, .int .u16 0, .int .u32 0, .int .u16 0, .slice none 0 0, .int .u64 0, .int .u32 0, .int .u32 0, .int .u16 0, .int .u16 0, .int .u32 0, .int .u16 0] 31)).cell? ⟨w.heap.size, 7, none⟩ = some (.int .u32 0) := V4.cell 7 (by decide)
  have q8 : (w3.alloc (.cells #[.int .i64 (k : Int), .int .u16 0, .int .u16 0, .int .u32 0, .int .u16 0, .slice none 0 0, .int .u64 0, .int .u32 0, .int .u32 0, .int .u16 0, .int .u16 0, .int .u32 0, .int .u16 0] 31)).cell? ⟨w.heap.size, 8, none⟩ = some (.int .u32 0) := V4.cell 8 (by decide)
  have q9 : (w3.alloc (.cells #[.int .i64 (k : Int), .int .u16 0, .int .u16 0, .int .u32 0, .int .u16 0, .slice none 0 0, .int .u64 0, .int .u32 0, .int .u32 0, .int .u16 0, .int .u16 0, .int .u32 0, .int .u16 0] 31)).cell? ⟨w.heap.size, 9, none⟩ = some (.int .u16 0) := V4.cell 9 (by decide)
  have q10 : (w3.alloc (.cells #[.int .i64 (k : Int), .int .u16 0, .int .u16 0, .int .u32 0, .int .u16 0, .slice none 0 0, .int .u64 0, .int .u32 0, .int .u32 0, .int .u16 0, .int .u16 0, .int .u32 0, .int .u16 0] 31)).cell? ⟨w.heap.size, 10, none⟩ = some (.int .u16 0) := V4.cell 10 (by decide)
  have q11 : (w3.alloc (.cells #[.int .i64 (k : Int), .int .u16 0, .int .u16 0, .int .u32 0, .int .u16 0, .slice none 0 0, .int .u64 0, .int .u32 0, .int .u32 0, .int .u16 0, .int .u16 0, .int .u32 0, .int .u16 0] 31)).cell? ⟨w.heap.size, 11, none⟩ = some (.int .u32 0) := V4.cell 11 (by decide)
  have q12 : (w3.alloc (.cells #[.int .i64 (k : Int), .int .u16 0, .int .u16 0, .int .u32 0, .int .u16 0, .slice none 0 0, .int .u64 0, .int .u32 0, .int .u32 0, .int .u16 0, .int .u16 0, .int .u32 0, .int .u16 0] 31)).cell? ⟨w.heap.size, 12, none⟩ = some (.int .u16 0) := V4.cell 12 (by decide)
  have z0 := V4.frz 0
  have z1 := V4.frz 1
  have z2 := V4.frz 2
  have z3 := V4.frz 3
  have z4 := V4.frz 4
  have z5 := V4.frz 5
  have z6 := V4.frz 6
  have z7 := V4.frz 7
  have z8 := V4.frz 8
  have z9 := V4.frz 9
  have z10 := V4.frz 10
  have z11 := V4.frz 11
  have z12 := V4.frz 12
  have D9 : Hid (PkAt ((((((((((((((w3.alloc (.cells #[.int .i64 (k : Int), .int .u16 0, .int .u16 0, .int .u32 0, .int .u16 0, .slice none 0 0, .int .u64 0, .int .u32 0, .int .u32 0, .int .u16 0, .int .u16 0, .int .u32 0, .int .u16 0] 31)).setCell ⟨w.heap.size, 0, none⟩ (.int .i64 0)).setCell ⟨w.heap.size, 1, none⟩ (.int .u16 0)).setCell ⟨w.heap.size, 2, none⟩ (.int .u16 0)).setCell ⟨w.heap.size, 3, none⟩ (.int .u32 0)).setCell ⟨w.heap.size, 4, none⟩ (.int .u16 0)).setCell ⟨w.heap.size, 5, none⟩ (.slice none 0 0)).setCell ⟨w.heap.size, 6, none⟩ (.int .u64 0)).setCell ⟨w.heap.size, 7, none⟩ (.int .u32 0)).setCell ⟨w.heap.size, 8, none⟩ (.int .u32 0)).setCell ⟨w.heap.size, 9, none⟩ (.int .u16 0)).setCell ⟨w.heap.size, 10, none⟩ (.int .u16 0)).setCell ⟨w.heap.size, 11, none⟩ (.int .u32 0)).setCell ⟨w.heap.size, 12, none⟩ (.int .u16 0)) w.heap.size Pk.zero none 0) := V4.write Pk.zero none 0
  have HA : Hid (TkIs w L x (.returned (.tuple #[.agg #[.int .i64 0, .int .u16 0, .int .u16 0, .int .u32 0, .int .u16 0, .slice none 0 0, .int .u64 0, .int .u32 0, .int .u32 0, .int .u16 0, .int .u16 0, .int .u32 0, .int .u16 0], .int .i64 2])) ((((((((((((((w3.alloc (.cells #[.int .i64 (k : Int), .int .u16 0, .int .u16 0, .int .u32 0, .int .u16 0, .slice none 0 0, .int .u64 0, .int .u32 0, .int .u32 0, .int .u16 0, .int .u16 0, .int .u32 0, .int .u16 0] 31)).setCell ⟨w.heap.size, 0, none⟩ (.int .i64 0)).setCell ⟨w.heap.size, 1, none⟩ (.int .u16 0)).setCell ⟨w.heap.size, 2, none⟩ (.int .u16 0)).setCell ⟨w.heap.size, 3, none⟩ (.int .u32 0)).setCell ⟨w.heap.size, 4, none⟩ (.int .u16 0)).setCell ⟨w.heap.size, 5, none⟩ (.slice none 0 0)).setCell ⟨w.heap.size, 6, none⟩ (.int .u64 0)).setCell ⟨w.heap.size, 7, none⟩ (.int .u32 0)).setCell ⟨w.heap.size, 8, none⟩ (.int .u32 0)).setCell ⟨w.heap.size, 9, none⟩ (.int .u16 0)).setCell ⟨w.heap.size, 10, none⟩ (.int .u16 0)).setCell ⟨w.heap.size, 11, none⟩ (.int .u32 0)).setCell ⟨w.heap.size, 12, none⟩ (.int .u16 0))) := TkIs.form h0 ((tk_in h1).trans (by rw [HK.out]; exact inP_kind hK)) (puts_below (Nat.le_refl _) [.int .i64 0, .int .u16 0, .int .u16 0, .int .u32 0, .int .u16 0, .slice none 0 0, .int .u64 0, .int .u32 0, .int .u32 0, .int .u16 0, .int .u16 0, .int .u32 0, .int .u16 0] 0 b4)
  clear V4 b4
  go_wp2
  generalize ((((((((((((((w3.alloc (.cells #[.int .i64 (k : Int), .int .u16 0, .int .u16 0, .int .u32 0, .int .u16 0, .slice none 0 0, .int .u64 0, .int .u32 0, .int .u32 0, .int .u16 0, .int .u16 0, .int .u32 0, .int .u16 0] 31)).setCell ⟨w.heap.size, 0, none⟩ (.int .i64 0)).setCell ⟨w.heap.size, 1, none⟩ (.int .u16 0)).setCell ⟨w.heap.size, 2, none⟩ (.int .u16 0)).setCell ⟨w.heap.size, 3, none⟩ (.int .u32 0)).setCell ⟨w.heap.size, 4, none⟩ (.int .u16 0)).setCell ⟨w.heap.size, 5, none⟩ (.slice none 0 0)).setCell ⟨w.heap.size, 6, none⟩ (.int .u64 0)).setCell ⟨w.heap.size, 7, none⟩ (.int .u32 0)).setCell ⟨w.heap.size, 8, none⟩ (.int .u32 0)).setCell ⟨w.heap.size, 9, none⟩ (.int .u16 0)).setCell ⟨w.heap.size, 10, none⟩ (.int .u16 0)).setCell ⟨w.heap.size, 11, none⟩ (.int .u32 0)).setCell ⟨w.heap.size, 12, none⟩ (.int .u16 0)) = w9 at *
  clear q0 q1 q2 q3 q4 q5 q6 q7 q8 q9 q10 q11 q12 z0 z1 z2 z3 z4 z5 z6 z7 z8 z9 z10 z11 z12
  have s0 : w9.cell? ⟨w.heap.size, 0, none⟩ = some (.int .i64 0) := D9.out.cell 0 (by decide)
  have s1 : w9.cell? ⟨w.heap.size, 1, none⟩ = some (.int .u16 0) := D9.out.cell 1 (by decide)
  have s2 : w9.cell? ⟨w.heap.size, 2, none⟩ = some (.int .u16 0) := D9.out.cell 2 (by decide)
  have s3 : w9.cell? ⟨w.heap.size, 3, none⟩ = some (.int .u32 0) := D9.out.cell 3 (by decide)
  have s4 : w9.cell? ⟨w.heap.size, 4, none⟩ = some (.int .u16 0) := D9.out.cell 4 (by decide)
  have s5 : w9.cell? ⟨w.heap.size, 5, none⟩ = some (.slice none 0 0) := D9.out.cell 5 (by decide)
  have s6 : w9.cell? ⟨w.heap.size, 6, none⟩ = some (.int .u64 0) := D9.out.cell 6 (by decide)
  have s7 : w9.cell? ⟨w.heap.size, 7, none⟩ = some (.int .u32 0) := D9.out.cell 7 (by decide)
  have s8 : w9.cell? ⟨w.heap.size, 8, none⟩ = some (.int .u32 0) := D9.out.cell 8 (by decide)
  have s9 : w9.cell? ⟨w.heap.size, 9, none⟩ = some (.int .u16 0) := D9.out.cell 9 (by decide)
  have s10 : w9.cell? ⟨w.heap.size, 10, none⟩ = some (.int .u16 0) := D9.out.cell 10 (by decide)
  have s11 : w9.cell? ⟨w.heap.size, 11, none⟩ = some (.int .u32 0) := D9.out.cell 11 (by decide)
  have s12 : w9.cell? ⟨w.heap.size, 12, none⟩ = some (.int .u16 0) := D9.out.cell 12 (by decide)
  refine bodyPost_ret (v := .tuple #[.agg #[.int .i64 0, .int .u16 0, .int .u16 0, .int .u32 0, .int .u16 0, .slice none 0 0, .int .u64 0, .int .u32 0, .int .u32 0, .int .u16 0, .int .u16 0, .int .u32 0, .int .u16 0], .int .i64 2]) ?_ rfl HA.out
  simp [results, Try.results12, go_sem, s0, s1, s2, s3, s4, s5, s6, s7, s8, s9, s10, s11, s12]

set_option maxRecDepth 100000 in
set_option maxHeartbeats 2000000 in
theorem rpt_gone_no (a : Option Addr) (L c : Nat) (x : Nat → Nat) (w : World) (hx : BytesAt w a L x) (hc : L ≤ c) (hn : L ≤ 100000) (m : Nat) (h0 : opB x L = true) (h1 : opN x L = m + 1) (hk : x 0 = 4) (hm : m ≠ 4) :
    Calls Try.prog 12 #[.slice a L c] w fun e w' => TkIs w L x e w' := by
  have V1 : Hid (PkAt (w.alloc (.cells #[.int .i64 0, .int .u16 0, .int .u16 0, .int .u32 0, .int .u16 0, .slice none 0 0, .int .u64 0, .int .u32 0, .int .u32 0, .int .u16 0, .int .u16 0, .int .u32 0, .int .u16 0] 31)) w.heap.size Pk.zero none 0) := PkAt.made w _ Pk.zero none 0
  have b1 : Hid (Below w.heap.size w (w.alloc (.cells #[.int .i64 0, .int .u16 0, .int .u16 0, .int .u32 0, .int .u16 0, .slice none 0 0, .int .u64 0, .int .u32 0, .int .u32 0, .int .u16 0, .int .u16 0, .int .u32 0, .int .u16 0] 31))) := (Below.refl _ _).alloc (Nat.le_refl _) _
  have HX : Hid (BytesAt w a L x) := hx
  clear hx
  go_enter Try.func12, Try.ntmps12
  go_wp2_with fail
  generalize (w.alloc (.cells #[.int .i64 0, .int .u16 0, .int .u16 0, .int .u32 0, .int .u16 0, .slice none 0 0, .int .u64 0, .int .u32 0, .int .u32 0, .int .u16 0, .int .u16 0, .int .u32 0, .int .u16 0] 31)) = w2 at *
  refine (ropen_any a L c x w2 (HX.out.grew b1.out) hc hn).mono ?_
  intro e w3 h
  rw [h0, h1] at h
  obtain ⟨r3, c3, rfl, k1, -, k3, k4, d3⟩ := h
  have V3 := V1.out.grew d3
  have b3 := b1.out.trans (d3.mono b1.out.size)
  clear V1 b1 d3
  obtain ⟨g3, rfl, -⟩ := k3 (by omega)
  have q := bytes_cell k4 0 (by omega)
  rw [Nat.add_zero] at q
  have lk := k4.lt 0 (by omega)
  obtain ⟨a5, hsl, B5⟩ := slice_left (some ⟨g3, 0, none⟩) (m + 1) c3 1 x w3 k4 (by omega) (by omega) k1
  rw [Nat.add_sub_cancel] at hsl B5
  have hsl : ∀ W, (Instr.slice 24 (.slice (some ⟨g3, 0, none⟩) (m + 1) c3) (some (.int .i64 1)) none none).run Try.prog W = .ok (.slice a5 m (c3 - 1)) W := hsl
  clear k3 k4
  rw [hk] at q lk
  have q : w3.cell? ⟨g3, 0, none⟩ = some (.int .u8 4) := q
  have a4 : Below w3.heap.size w3 (w3.alloc (.cells #[.int .i64 4, .int .u16 0, .int .u16 0, .int .u32 0, .int .u16 0, .slice none 0 0, .int .u64 0, .int .u32 0, .int .u32 0, .int .u16 0, .int .u16 0, .int .u32 0, .int .u16 0] 31)) := (Below.refl _ _).alloc (Nat.le_refl _) _
  have HV : Hid (PkAt (w3.alloc (.cells #[.int .i64 4, .int .u16 0, .int .u16 0, .int .u32 0, .int .u16 0, .slice none 0 0, .int .u64 0, .int .u32 0, .int .u32 0, .int .u16 0, .int .u16 0, .int .u32 0, .int .u16 0] 31)) w.heap.size Pk.zero none 0) := V3.grew a4
  have HB : Hid (Below w.heap.size w (w3.alloc (.cells #[.int .i64 4, .int .u16 0, .int .u16 0, .int .u32 0, .int .u16 0, .slice none 0 0, .int .u64 0, .int .u32 0, .int .u32 0, .int .u16 0, .int .u16 0, .int .u32 0, .int .u16 0] 31))) := b3.trans (a4.mono b3.size)
  have HY : Hid (BytesAt (w3.alloc (.cells #[.int .i64 4, .int .u16 0, .int .u16 0, .int .u32 0, .int .u16 0, .slice none 0 0, .int .u64 0, .int .u32 0, .int .u32 0, .int .u16 0, .int .u16 0, .int .u32 0, .int .u16 0] 31)) a5 m (fun i => x (1 + i))) := B5.grew a4
  have HD : Hid (PkAt (w3.alloc (.cells #[.int .i64 4, .int .u16 0, .int .u16 0, .int .u32 0, .int .u16 0, .slice none 0 0, .int .u64 0, .int .u32 0, .int .u32 0, .int .u16 0, .int .u16 0, .int .u32 0, .int .u16 0] 31)) w3.heap.size (pKind 4) none 0) := PkAt.made w3 31 (pKind 4) none 0
  have HG : Hid (w.heap.size < w3.heap.size) := V3.lt
  have HK : Hid (x 0 = 4) := hk
  have hc3 : Hid (m ≤ c3 - 1) := by show _ ≤ _; omega
  have i1 : (0 : Int) < (m : Int) + 1 := by omega
  have i2 : ((m : Int) + 1 == 0) = false := by simp; omega
  clear V3 b3 a4 B5 hk
  go_wp2_with fail
  generalize (w3.alloc (.cells #[.int .i64 4, .int .u16 0, .int .u16 0, .int .u32 0, .int .u16 0, .slice none 0 0, .int .u64 0, .int .u32 0, .int .u32 0, .int .u16 0, .int .u16 0, .int .u32 0, .int .u16 0] 31)) = w5 at *
  generalize w3.heap.size = G at *
  clear q
  refine (rtakeg_any a5 m (c3 - 1) _ w5 HY.out).mono ?_
  intro e w6 h
  obtain ⟨rfl, d6⟩ := h.none hm
  have hG := HG.out
  have D6 := HD.out.grew d6
  have V6 := HV.out.grew d6
  have b6 := HB.out.trans (d6.mono HB.out.size)
  have l5 := HB.out.size
  have g11 : w6.cell? ⟨G, 11, none⟩ = some (.int .u32 0) := D6.cell 11 (by decide)
  have y11 := D6.frz 11
  have V7 : PkAt (w6.setCell ⟨G, 11, none⟩ (.int .u32 0)) w.heap.size Pk.zero none 0 := VAt.putsOther (by omega) [.int .u32 0] 11 V6
  have b7 : Below w.heap.size w (w6.setCell ⟨G, 11, none⟩ (.int .u32 0)) := puts_below (Nat.le_of_lt hG) [.int .u32 0] 11 b6
  have D9 : Hid (PkAt ((((((((((((((w6.setCell ⟨G, 11, none⟩ (.int .u32 0)).setCell ⟨w.heap.size, 0, none⟩ (.int .i64 0)).setCell ⟨w.heap.size, 1, none⟩ (.int .u16 0)).setCell ⟨w.heap.size, 2, none⟩ (.int .u16 0)).setCell ⟨w.heap.size, 3, none⟩ (.int .u32 0)).setCell ⟨w.heap.size, 4, none⟩ (.int .u16 0)).setCell ⟨w.heap.size, 5, none⟩ (.slice none 0 0)).setCell ⟨w.heap.size, 6, none⟩ (.int .u64 0)).setCell ⟨w.heap.size, 7, none⟩ (.int .u32 0)).setCell ⟨w.heap.size, 8, none⟩ (.int .u32 0)).setCell ⟨w.heap.size, 9, none⟩ (.int .u16 0)).setCell ⟨w.heap.size, 10, none⟩ (.int .u16 0)).setCell ⟨w.heap.size, 11, none⟩ (.int .u32 0)).setCell ⟨w.heap.size, 12, none⟩ (.int .u16 0)) w.heap.size Pk.zero none 0) := V7.write Pk.zero none 0
  have HA : Hid (TkIs w L x (.returned (.tuple #[.agg #[.int .i64 0, .int .u16 0, .int .u16 0, .int .u32 0, .int .u16 0, .slice none 0 0, .int .u64 0, .int .u32 0, .int .u32 0, .int .u16 0, .int .u16 0, .int .u32 0, .int .u16 0], .int .i64 2])) ((((((((((((((w6.setCell ⟨G, 11, none⟩ (.int .u32 0)).setCell ⟨w.heap.size, 0, none⟩ (.int .i64 0)).setCell ⟨w.heap.size, 1, none⟩ (.int .u16 0)).setCell ⟨w.heap.size, 2, none⟩ (.int .u16 0)).setCell ⟨w.heap.size, 3, none⟩ (.int .u32 0)).setCell ⟨w.heap.size, 4, none⟩ (.int .u16 0)).setCell ⟨w.heap.size, 5, none⟩ (.slice none 0 0)).setCell ⟨w.heap.size, 6, none⟩ (.int .u64 0)).setCell ⟨w.heap.size, 7, none⟩ (.int .u32 0)).setCell ⟨w.heap.size, 8, none⟩ (.int .u32 0)).setCell ⟨w.heap.size, 9, none⟩ (.int .u16 0)).setCell ⟨w.heap.size, 10, none⟩ (.int .u16 0)).setCell ⟨w.heap.size, 11, none⟩ (.int .u32 0)).setCell ⟨w.heap.size, 12, none⟩ (.int .u16 0))) := TkIs.form h0 ((tk_in h1).trans (by rw [HK.out]; exact inP_gone_no hm)) (puts_below (Nat.le_refl _) [.int .i64 0, .int .u16 0, .int .u16 0, .int .u32 0, .int .u16 0, .slice none 0 0, .int .u64 0, .int .u32 0, .int .u32 0, .int .u16 0, .int .u16 0, .int .u32 0, .int .u16 0] 0 b7)
  have q0 : w6.cell? ⟨w.heap.size, 0, none⟩ = some (.int .i64 0) := V6.cell 0 (by decide)
  have q1 : w6.cell? ⟨w.heap.size, 1, none⟩ = some (.int .u16 0) := V6.cell 1 (by decide)
  have q2 : w6.cell? ⟨w.heap.size, 2, none⟩ = some (.int .u16 0) := V6.cell 2 (by decide)
  have q3 : w6.cell? ⟨w.heap.size, 3, none⟩ = some (.int .u32 0) := V6.cell 3 (by decide)
  have q4 : w6.cell? ⟨w.heap.size, 4, none⟩ = some (.int .u16 0) := V6.cell 4 (by decide)
  have q5 : w6.cell? ⟨w.heap.size, 5, none⟩ = some (.slice none 0 0) := V6.cell 5 (by decide)
  have q6 : w6.cell? ⟨w.heap.size, 6, none⟩ = some (.int .u64 0) := V6.cell 6 (by decide)
  have q7 : w6.cell? ⟨w.heap.size, 7, none⟩ = some (.int .u32 0) := V6.cell 7 (by decide)
  have q8 : w6.cell? ⟨w.heap.size, 8, none⟩ = some (.int .u32 0) := V6.cell 8 (by decide)
  have q9 : w6.cell? ⟨w.heap.size, 9, none⟩ = some (.int .u16 0) := V6.cell 9 (by decide)
  have q10 : w6.cell? ⟨w.heap.size, 10, none⟩ = some (.int .u16 0) := V6.cell 10 (by decide)
  have q11 : w6.cell? ⟨w.heap.size, 11, none⟩ = some (.int .u32 0) := V6.cell 11 (by decide)
  have q12 : w6.cell? ⟨w.heap.size, 12, none⟩ = some (.int .u16 0) := V6.cell 12 (by decide)
  have z0 := V6.frz 0
  have z1 := V6.frz 1
  have z2 := V6.frz 2
  have z3 := V6.frz 3
  have z4 := V6.frz 4
  have z5 := V6.frz 5
  have z6 := V6.frz 6
  have z7 := V6.frz 7
  have z8 := V6.frz 8
  have z9 := V6.frz 9
  have z10 := V6.frz 10
  have z11 := V6.frz 11
  have z12 := V6.frz 12
  have nG : w.heap.size ≠ G := by omega
  have nG2 : G ≠ w.heap.size := by omega
  clear V7 b7 D6 V6 b6 hG d6
  clear HD HV HB HY hsl h
  go_wp2
  generalize ((((((((((((((w6.setCell ⟨G, 11, none⟩ (.int .u32 0)).setCell ⟨w.heap.size, 0, none⟩ (.int .i64 0)).setCell ⟨w.heap.size, 1, none⟩ (.int .u16 0)).setCell ⟨w.heap.size, 2, none⟩ (.int .u16 0)).setCell ⟨w.heap.size, 3, none⟩ (.int .u32 0)).setCell ⟨w.heap.size, 4, none⟩ (.int .u16 0)).setCell ⟨w.heap.size, 5, none⟩ (.slice none 0 0)).setCell ⟨w.heap.size, 6, none⟩ (.int .u64 0)).setCell ⟨w.heap.size, 7, none⟩ (.int .u32 0)).setCell ⟨w.heap.size, 8, none⟩ (.int .u32 0)).setCell ⟨w.heap.size, 9, none⟩ (.int .u16 0)).setCell ⟨w.heap.size, 10, none⟩ (.int .u16 0)).setCell ⟨w.heap.size, 11, none⟩ (.int .u32 0)).setCell ⟨w.heap.size, 12, none⟩ (.int .u16 0)) = w9 at *
  clear q0 q1 q2 q3 q4 q5 q6 q7 q8 q9 q10 q11 q12 z0 z1 z2 z3 z4 z5 z6 z7 z8 z9 z10 z11 z12
  have s0 : w9.cell? ⟨w.heap.size, 0, none⟩ = some (.int .i64 0) := D9.out.cell 0 (by decide)
  have s1 : w9.cell? ⟨w.heap.size, 1, none⟩ = some (.int .u16 0) := D9.out.cell 1 (by decide)
  have s2 : w9.cell? ⟨w.heap.size, 2, none⟩ = some (.int .u16 0) := D9.out.cell 2 (by decide)
  have s3 : w9.cell? ⟨w.heap.size, 3, none⟩ = some (.int .u32 0) := D9.out.cell 3 (by decide)
  have s4 : w9.cell? ⟨w.heap.size, 4, none⟩ = some (.int .u16 0) := D9.out.cell 4 (by decide)
  have s5 : w9.cell? ⟨w.heap.size, 5, none⟩ = some (.slice none 0 0) := D9.out.cell 5 (by decide)
  have s6 : w9.cell? ⟨w.heap.size, 6, none⟩ = some (.int .u64 0) := D9.out.cell 6 (by decide)
  have s7 : w9.cell? ⟨w.heap.size, 7, none⟩ = some (.int .u32 0) := D9.out.cell 7 (by decide)
  have s8 : w9.cell? ⟨w.heap.size, 8, none⟩ = some (.int .u32 0) := D9.out.cell 8 (by decide)
  have s9 : w9.cell? ⟨w.heap.size, 9, none⟩ = some (.int .u16 0) := D9.out.cell 9 (by decide)
  have s10 : w9.cell? ⟨w.heap.size, 10, none⟩ = some (.int .u16 0) := D9.out.cell 10 (by decide)
  have s11 : w9.cell? ⟨w.heap.size, 11, none⟩ = some (.int .u32 0) := D9.out.cell 11 (by decide)
  have s12 : w9.cell? ⟨w.heap.size, 12, none⟩ = some (.int .u16 0) := D9.out.cell 12 (by decide)
  refine bodyPost_ret (v := .tuple #[.agg #[.int .i64 0, .int .u16 0, .int .u16 0, .int .u32 0, .int .u16 0, .slice none 0 0, .int .u64 0, .int .u32 0, .int .u32 0, .int .u16 0, .int .u16 0, .int .u32 0, .int .u16 0], .int .i64 2]) ?_ rfl HA.out
  simp [results, Try.results12, go_sem, s0, s1, s2, s3, s4, s5, s6, s7, s8, s9, s10, s11, s12]

set_option maxRecDepth 100000 in
set_option maxHeartbeats 2000000 in
theorem rpt_gone_yes (a : Option Addr) (L c : Nat) (x : Nat → Nat) (w : World) (hx : BytesAt w a L x) (hc : L ≤ c) (hn : L ≤ 100000) (m : Nat) (h0 : opB x L = true) (h1 : opN x L = m + 1) (hk : x 0 = 4) (f : Nat) (q : Pk) (hq : q = (pGone f)) (hI : inP 4 m (fun i => x (1 + i)) = some q) (HT : ∀ W e W', GoneTake W m (fun i => x (1 + i)) e W' → GoneIs W f 0 e W') :
    Calls Try.prog 12 #[.slice a L c] w fun e w' => TkIs w L x e w' := by
  have V1 : Hid (PkAt (w.alloc (.cells #[.int .i64 0, .int .u16 0, .int .u16 0, .int .u32 0, .int .u16 0, .slice none 0 0, .int .u64 0, .int .u32 0, .int .u32 0, .int .u16 0, .int .u16 0, .int .u32 0, .int .u16 0] 31)) w.heap.size Pk.zero none 0) := PkAt.made w _ Pk.zero none 0
  have b1 : Hid (Below w.heap.size w (w.alloc (.cells #[.int .i64 0, .int .u16 0, .int .u16 0, .int .u32 0, .int .u16 0, .slice none 0 0, .int .u64 0, .int .u32 0, .int .u32 0, .int .u16 0, .int .u16 0, .int .u32 0, .int .u16 0] 31))) := (Below.refl _ _).alloc (Nat.le_refl _) _
  have HX : Hid (BytesAt w a L x) := hx
  clear hx
  go_enter Try.func12, Try.ntmps12
  go_wp2_with fail
  generalize (w.alloc (.cells #[.int .i64 0, .int .u16 0, .int .u16 0, .int .u32 0, .int .u16 0, .slice none 0 0, .int .u64 0, .int .u32 0, .int .u32 0, .int .u16 0, .int .u16 0, .int .u32 0, .int .u16 0] 31)) = w2 at *
  refine (ropen_any a L c x w2 (HX.out.grew b1.out) hc hn).mono ?_
  intro e w3 h
  rw [h0, h1] at h
  obtain ⟨r3, c3, rfl, k1, -, k3, k4, d3⟩ := h
  have V3 := V1.out.grew d3
  have b3 := b1.out.trans (d3.mono b1.out.size)
  clear V1 b1 d3
  obtain ⟨g3, rfl, -⟩ := k3 (by omega)
  have q := bytes_cell k4 0 (by omega)
  rw [Nat.add_zero] at q
  have lk := k4.lt 0 (by omega)
  obtain ⟨a5, hsl, B5⟩ := slice_left (some ⟨g3, 0, none⟩) (m + 1) c3 1 x w3 k4 (by omega) (by omega) k1
  rw [Nat.add_sub_cancel] at hsl B5
  have hsl : ∀ W, (Instr.slice 24 (.slice (some ⟨g3, 0, none⟩) (m + 1) c3) (some (.int .i64 1)) none none).run Try.prog W = .ok (.slice a5 m (c3 - 1)) W := hsl
  clear k3 k4
  rw [hk] at q lk
  have q : w3.cell? ⟨g3, 0, none⟩ = some (.int .u8 4) := q
  have a4 : Below w3.heap.size w3 (w3.alloc (.cells #[.int .i64 4, .int .u16 0, .int .u16 0, .int .u32 0, .int .u16 0, .slice none 0 0, .int .u64 0, .int .u32 0, .int .u32 0, .int .u16 0, .int .u16 0, .int .u32 0, .int .u16 0] 31)) := (Below.refl _ _).alloc (Nat.le_refl _) _
  have HV : Hid (PkAt (w3.alloc (.cells #[.int .i64 4, .int .u16 0, .int .u16 0, .int .u32 0, .int .u16 0, .slice none 0 0, .int .u64 0, .int .u32 0, .int .u32 0, .int .u16 0, .int .u16 0, .int .u32 0, .int .u16 0] 31)) w.heap.size Pk.zero none 0) := V3.grew a4
  have HB : Hid (Below w.heap.size w (w3.alloc (.cells #[.int .i64 4, .int .u16 0, .int .u16 0, .int .u32 0, .int .u16 0, .slice none 0 0, .int .u64 0, .int .u32 0, .int .u32 0, .int .u16 0, .int .u16 0, .int .u32 0, .int .u16 0] 31))) := b3.trans (a4.mono b3.size)
  have HY : Hid (BytesAt (w3.alloc (.cells #[.int .i64 4, .int .u16 0, .int .u16 0, .int .u32 0, .int .u16 0, .slice none 0 0, .int .u64 0, .int .u32 0, .int .u32 0, .int .u16 0, .int .u16 0, .int .u32 0, .int .u16 0] 31)) a5 m (fun i => x (1 + i))) := B5.grew a4
  have HD : Hid (PkAt (w3.alloc (.cells #[.int .i64 4, .int .u16 0, .int .u16 0, .int .u32 0, .int .u16 0, .slice none 0 0, .int .u64 0, .int .u32 0, .int .u32 0, .int .u16 0, .int .u16 0, .int .u32 0, .int .u16 0] 31)) w3.heap.size (pKind 4) none 0) := PkAt.made w3 31 (pKind 4) none 0
  have HG : Hid (w.heap.size < w3.heap.size) := V3.lt
  have HK : Hid (x 0 = 4) := hk
  have hc3 : Hid (m ≤ c3 - 1) := by show _ ≤ _; omega
  have i1 : (0 : Int) < (m : Int) + 1 := by omega
  have i2 : ((m : Int) + 1 == 0) = false := by simp; omega
  clear V3 b3 a4 B5 hk
  go_wp2_with fail
  generalize (w3.alloc (.cells #[.int .i64 4, .int .u16 0, .int .u16 0, .int .u32 0, .int .u16 0, .slice none 0 0, .int .u64 0, .int .u32 0, .int .u32 0, .int .u16 0, .int .u16 0, .int .u32 0, .int .u16 0] 31)) = w5 at *
  generalize w3.heap.size = G at *
  clear q
  refine (rtakeg_any a5 m (c3 - 1) _ w5 HY.out).mono ?_
  intro e w6 h
  obtain ⟨rfl, d6⟩ := HT _ _ _ h
  have hG := HG.out
  have D6 := HD.out.grew d6
  have V6 := HV.out.grew d6
  have b6 := HB.out.trans (d6.mono HB.out.size)
  have l5 := HB.out.size
  have g11 : w6.cell? ⟨G, 11, none⟩ = some (.int .u32 0) := D6.cell 11 (by decide)
  have y11 := D6.frz 11
  have D7 : PkAt (w6.setCell ⟨G, 11, none⟩ (.int .u32 (f : Int))) G (pGone f) none 0 := D6.run 11 [.int .u32 (f : Int)] (Nat.le_of_ble_eq_true rfl) fun j hj => match j, hj with
    | 0, _ => rfl
    | 1, _ => rfl
    | 2, _ => rfl
    | 3, _ => rfl
    | 4, _ => rfl
    | 5, _ => rfl
    | 6, _ => rfl
    | 7, _ => rfl
    | 8, _ => rfl
    | 9, _ => rfl
    | 10, _ => rfl
    | 11, _ => rfl
    | 12, _ => rfl
  have V7 : PkAt (w6.setCell ⟨G, 11, none⟩ (.int .u32 (f : Int))) w.heap.size Pk.zero none 0 := VAt.putsOther (by omega) [.int .u32 (f : Int)] 11 V6
  have b7 : Below w.heap.size w (w6.setCell ⟨G, 11, none⟩ (.int .u32 (f : Int))) := puts_below (Nat.le_of_lt hG) [.int .u32 (f : Int)] 11 b6
  have B7 : BytesAt (w6.setCell ⟨G, 11, none⟩ (.int .u32 (f : Int))) none (pGone f).n (pGone f).x := nil_bytes _ _
  have D9 : Hid (PkAt ((((((((((((((w6.setCell ⟨G, 11, none⟩ (.int .u32 (f : Int))).setCell ⟨w.heap.size, 0, none⟩ (.int .i64 4)).setCell ⟨w.heap.size, 1, none⟩ (.int .u16 0)).setCell ⟨w.heap.size, 2, none⟩ (.int .u16 0)).setCell ⟨w.heap.size, 3, none⟩ (.int .u32 0)).setCell ⟨w.heap.size, 4, none⟩ (.int .u16 0)).setCell ⟨w.heap.size, 5, none⟩ (.slice none 0 0)).setCell ⟨w.heap.size, 6, none⟩ (.int .u64 0)).setCell ⟨w.heap.size, 7, none⟩ (.int .u32 0)).setCell ⟨w.heap.size, 8, none⟩ (.int .u32 0)).setCell ⟨w.heap.size, 9, none⟩ (.int .u16 0)).setCell ⟨w.heap.size, 10, none⟩ (.int .u16 0)).setCell ⟨w.heap.size, 11, none⟩ (.int .u32 (f : Int))).setCell ⟨w.heap.size, 12, none⟩ (.int .u16 0)) w.heap.size (pGone f) none 0) := V7.write (pGone f) none 0
  have HA : Hid (TkIs w L x (.returned (.tuple #[.agg #[.int .i64 4, .int .u16 0, .int .u16 0, .int .u32 0, .int .u16 0, .slice none 0 0, .int .u64 0, .int .u32 0, .int .u32 0, .int .u16 0, .int .u16 0, .int .u32 (f : Int), .int .u16 0], .int .i64 0])) ((((((((((((((w6.setCell ⟨G, 11, none⟩ (.int .u32 (f : Int))).setCell ⟨w.heap.size, 0, none⟩ (.int .i64 4)).setCell ⟨w.heap.size, 1, none⟩ (.int .u16 0)).setCell ⟨w.heap.size, 2, none⟩ (.int .u16 0)).setCell ⟨w.heap.size, 3, none⟩ (.int .u32 0)).setCell ⟨w.heap.size, 4, none⟩ (.int .u16 0)).setCell ⟨w.heap.size, 5, none⟩ (.slice none 0 0)).setCell ⟨w.heap.size, 6, none⟩ (.int .u64 0)).setCell ⟨w.heap.size, 7, none⟩ (.int .u32 0)).setCell ⟨w.heap.size, 8, none⟩ (.int .u32 0)).setCell ⟨w.heap.size, 9, none⟩ (.int .u16 0)).setCell ⟨w.heap.size, 10, none⟩ (.int .u16 0)).setCell ⟨w.heap.size, 11, none⟩ (.int .u32 (f : Int))).setCell ⟨w.heap.size, 12, none⟩ (.int .u16 0))) := TkIs.yes h0 ((tk_in h1).trans (by rw [HK.out, hI, hq])) (Nat.le_refl _) (fun h => absurd h (Nat.lt_irrefl 0)) (BytesAt.puts [.int .i64 4, .int .u16 0, .int .u16 0, .int .u32 0, .int .u16 0, .slice none 0 0, .int .u64 0, .int .u32 0, .int .u32 0, .int .u16 0, .int .u16 0, .int .u32 (f : Int), .int .u16 0] 0 B7 V7.vat (Nat.le_refl 13) (Pk.noByte _ _ _)) (puts_below (Nat.le_refl _) [.int .i64 4, .int .u16 0, .int .u16 0, .int .u32 0, .int .u16 0, .slice none 0 0, .int .u64 0, .int .u32 0, .int .u32 0, .int .u16 0, .int .u16 0, .int .u32 (f : Int), .int .u16 0] 0 b7)
  have q0 : w6.cell? ⟨w.heap.size, 0, none⟩ = some (.int .i64 0) := V6.cell 0 (by decide)
  have q1 : w6.cell? ⟨w.heap.size, 1, none⟩ = some (.int .u16 0) := V6.cell 1 (by decide)
  have q2 : w6.cell? ⟨w.heap.size, 2, none⟩ = some (.int .u16 0) := V6.cell 2 (by decide)
  have q3 : w6.cell? ⟨w.heap.size, 3, none⟩ = some (.int .u32 0) := V6.cell 3 (by decide)
  have q4 : w6.cell? ⟨w.heap.size, 4, none⟩ = some (.int .u16 0) := V6.cell 4 (by decide)
  have q5 : w6.cell? ⟨w.heap.size, 5, none⟩ = some (.slice none 0 0) := V6.cell 5 (by decide)
  have q6 : w6.cell? ⟨w.heap.size, 6, none⟩ = some (.int .u64 0) := V6.cell 6 (by decide)
  have q7 : w6.cell? ⟨w.heap.size, 7, none⟩ = some (.int .u32 0) := V6.cell 7 (by decide)
  have q8 : w6.cell? ⟨w.heap.size, 8, none⟩ = some (.int .u32 0) := V6.cell 8 (by decide)
  have q9 : w6.cell? ⟨w.heap.size, 9, none⟩ = some (.int .u16 0) := V6.cell 9 (by decide)
  have q10 : w6.cell? ⟨w.heap.size, 10, none⟩ = some (.int .u16 0) := V6.cell 10 (by decide)
  have q11 : w6.cell? ⟨w.heap.size, 11, none⟩ = some (.int .u32 0) := V6.cell 11 (by decide)
  have q12 : w6.cell? ⟨w.heap.size, 12, none⟩ = some (.int .u16 0) := V6.cell 12 (by decide)
  have z0 := V6.frz 0
  have z1 := V6.frz 1
  have z2 := V6.frz 2
  have z3 := V6.frz 3
  have z4 := V6.frz 4
  have z5 := V6.frz 5
  have z6 := V6.frz 6
  have z7 := V6.frz 7
  have z8 := V6.frz 8
  have z9 := V6.frz 9
  have z10 := V6.frz 10
  have z11 := V6.frz 11
  have z12 := V6.frz 12
  have g0 : w6.cell? ⟨G, 0, none⟩ = some (.int .i64 4) := D6.cell 0 (by decide)
  have g1 : w6.cell? ⟨G, 1, none⟩ = some (.int .u16 0) := D6.cell 1 (by decide)
  have g2 : w6.cell? ⟨G, 2, none⟩ = some (.int .u16 0) := D6.cell 2 (by decide)
  have g3 : w6.cell? ⟨G, 3, none⟩ = some (.int .u32 0) := D6.cell 3 (by decide)
  have g4 : w6.cell? ⟨G, 4, none⟩ = some (.int .u16 0) := D6.cell 4 (by decide)
  have g5 : w6.cell? ⟨G, 5, none⟩ = some (.slice none 0 0) := D6.cell 5 (by decide)
  have g6 : w6.cell? ⟨G, 6, none⟩ = some (.int .u64 0) := D6.cell 6 (by decide)
  have g7 : w6.cell? ⟨G, 7, none⟩ = some (.int .u32 0) := D6.cell 7 (by decide)
  have g8 : w6.cell? ⟨G, 8, none⟩ = some (.int .u32 0) := D6.cell 8 (by decide)
  have g9 : w6.cell? ⟨G, 9, none⟩ = some (.int .u16 0) := D6.cell 9 (by decide)
  have g10 : w6.cell? ⟨G, 10, none⟩ = some (.int .u16 0) := D6.cell 10 (by decide)
  have g12 : w6.cell? ⟨G, 12, none⟩ = some (.int .u16 0) := D6.cell 12 (by decide)
  have nG : w.heap.size ≠ G := by omega
  have nG2 : G ≠ w.heap.size := by omega
  clear V7 b7 D7 B7 D6 V6 b6 hG d6
  clear HD HV HB HY hsl h
  go_wp2
  generalize ((((((((((((((w6.setCell ⟨G, 11, none⟩ (.int .u32 (f : Int))).setCell ⟨w.heap.size, 0, none⟩ (.int .i64 4)).setCell ⟨w.heap.size, 1, none⟩ (.int .u16 0)).setCell ⟨w.heap.size, 2, none⟩ (.int .u16 0)).setCell ⟨w.heap.size, 3, none⟩ (.int .u32 0)).setCell ⟨w.heap.size, 4, none⟩ (.int .u16 0)).setCell ⟨w.heap.size, 5, none⟩ (.slice none 0 0)).setCell ⟨w.heap.size, 6, none⟩ (.int .u64 0)).setCell ⟨w.heap.size, 7, none⟩ (.int .u32 0)).setCell ⟨w.heap.size, 8, none⟩ (.int .u32 0)).setCell ⟨w.heap.size, 9, none⟩ (.int .u16 0)).setCell ⟨w.heap.size, 10, none⟩ (.int .u16 0)).setCell ⟨w.heap.size, 11, none⟩ (.int .u32 (f : Int))).setCell ⟨w.heap.size, 12, none⟩ (.int .u16 0)) = w9 at *
  clear q0 q1 q2 q3 q4 q5 q6 q7 q8 q9 q10 q11 q12 z0 z1 z2 z3 z4 z5 z6 z7 z8 z9 z10 z11 z12
  have s0 : w9.cell? ⟨w.heap.size, 0, none⟩ = some (.int .i64 4) := D9.out.cell 0 (by decide)
  have s1 : w9.cell? ⟨w.heap.size, 1, none⟩ = some (.int .u16 0) := D9.out.cell 1 (by decide)
  have s2 : w9.cell? ⟨w.heap.size, 2, none⟩ = some (.int .u16 0) := D9.out.cell 2 (by decide)
  have s3 : w9.cell? ⟨w.heap.size, 3, none⟩ = some (.int .u32 0) := D9.out.cell 3 (by decide)
  have s4 : w9.cell? ⟨w.heap.size, 4, none⟩ = some (.int .u16 0) := D9.out.cell 4 (by decide)
  have s5 : w9.cell? ⟨w.heap.size, 5, none⟩ = some (.slice none 0 0) := D9.out.cell 5 (by decide)
  have s6 : w9.cell? ⟨w.heap.size, 6, none⟩ = some (.int .u64 0) := D9.out.cell 6 (by decide)
  have s7 : w9.cell? ⟨w.heap.size, 7, none⟩ = some (.int .u32 0) := D9.out.cell 7 (by decide)
  have s8 : w9.cell? ⟨w.heap.size, 8, none⟩ = some (.int .u32 0) := D9.out.cell 8 (by decide)
  have s9 : w9.cell? ⟨w.heap.size, 9, none⟩ = some (.int .u16 0) := D9.out.cell 9 (by decide)
  have s10 : w9.cell? ⟨w.heap.size, 10, none⟩ = some (.int .u16 0) := D9.out.cell 10 (by decide)
  have s11 : w9.cell? ⟨w.heap.size, 11, none⟩ = some (.int .u32 (f : Int)) := D9.out.cell 11 (by decide)
  have s12 : w9.cell? ⟨w.heap.size, 12, none⟩ = some (.int .u16 0) := D9.out.cell 12 (by decide)
  refine bodyPost_ret (v := .tuple #[.agg #[.int .i64 4, .int .u16 0, .int .u16 0, .int .u32 0, .int .u16 0, .slice none 0 0, .int .u64 0, .int .u32 0, .int .u32 0, .int .u16 0, .int .u16 0, .int .u32 (f : Int), .int .u16 0], .int .i64 0]) ?_ rfl HA.out
  simp [results, Try.results12, go_sem, s0, s1, s2, s3, s4, s5, s6, s7, s8, s9, s10, s11, s12]

set_option maxRecDepth 100000 in
set_option maxHeartbeats 2000000 in
theorem rpt_nack_no (a : Option Addr) (L c : Nat) (x : Nat → Nat) (w : World) (hx : BytesAt w a L x) (hc : L ≤ c) (hn : L ≤ 100000) (m : Nat) (h0 : opB x L = true) (h1 : opN x L = m + 1) (hk : x 0 = 3) (hm : m ≠ 6) :
    Calls Try.prog 12 #[.slice a L c] w fun e w' => TkIs w L x e w' := by
  have V1 : Hid (PkAt (w.alloc (.cells #[.int .i64 0, .int .u16 0, .int .u16 0, .int .u32 0, .int .u16 0, .slice none 0 0, .int .u64 0, .int .u32 0, .int .u32 0, .int .u16 0, .int .u16 0, .int .u32 0, .int .u16 0] 31)) w.heap.size Pk.zero none 0) := PkAt.made w _ Pk.zero none 0
  have b1 : Hid (Below w.heap.size w (w.alloc (.cells #[.int .i64 0, .int .u16 0, .int .u16 0, .int .u32 0, .int .u16 0, .slice none 0 0, .int .u64 0, .int .u32 0, .int .u32 0, .int .u16 0, .int .u16 0, .int .u32 0, .int .u16 0] 31))) := (Below.refl _ _).alloc (Nat.le_refl _) _
  have HX : Hid (BytesAt w a L x) := hx
  clear hx
  go_enter Try.func12, Try.ntmps12
  go_wp2_with fail
  generalize (w.alloc (.cells #[.int .i64 0, .int .u16 0, .int .u16 0, .int .u32 0, .int .u16 0, .slice none 0 0, .int .u64 0, .int .u32 0, .int .u32 0, .int .u16 0, .int .u16 0, .int .u32 0, .int .u16 0] 31)) = w2 at *
  refine (ropen_any a L c x w2 (HX.out.grew b1.out) hc hn).mono ?_
  intro e w3 h
  rw [h0, h1] at h
  obtain ⟨r3, c3, rfl, k1, -, k3, k4, d3⟩ := h
  have V3 := V1.out.grew d3
  have b3 := b1.out.trans (d3.mono b1.out.size)
  clear V1 b1 d3
  obtain ⟨g3, rfl, -⟩ := k3 (by omega)
  have q := bytes_cell k4 0 (by omega)
  rw [Nat.add_zero] at q
  have lk := k4.lt 0 (by omega)
  obtain ⟨a5, hsl, B5⟩ := slice_left (some ⟨g3, 0, none⟩) (m + 1) c3 1 x w3 k4 (by omega) (by omega) k1
  rw [Nat.add_sub_cancel] at hsl B5
  have hsl : ∀ W, (Instr.slice 24 (.slice (some ⟨g3, 0, none⟩) (m + 1) c3) (some (.int .i64 1)) none none).run Try.prog W = .ok (.slice a5 m (c3 - 1)) W := hsl
  clear k3 k4
  rw [hk] at q lk
  have q : w3.cell? ⟨g3, 0, none⟩ = some (.int .u8 3) := q
  have a4 : Below w3.heap.size w3 (w3.alloc (.cells #[.int .i64 3, .int .u16 0, .int .u16 0, .int .u32 0, .int .u16 0, .slice none 0 0, .int .u64 0, .int .u32 0, .int .u32 0, .int .u16 0, .int .u16 0, .int .u32 0, .int .u16 0] 31)) := (Below.refl _ _).alloc (Nat.le_refl _) _
  have HV : Hid (PkAt (w3.alloc (.cells #[.int .i64 3, .int .u16 0, .int .u16 0, .int .u32 0, .int .u16 0, .slice none 0 0, .int .u64 0, .int .u32 0, .int .u32 0, .int .u16 0, .int .u16 0, .int .u32 0, .int .u16 0] 31)) w.heap.size Pk.zero none 0) := V3.grew a4
  have HB : Hid (Below w.heap.size w (w3.alloc (.cells #[.int .i64 3, .int .u16 0, .int .u16 0, .int .u32 0, .int .u16 0, .slice none 0 0, .int .u64 0, .int .u32 0, .int .u32 0, .int .u16 0, .int .u16 0, .int .u32 0, .int .u16 0] 31))) := b3.trans (a4.mono b3.size)
  have HY : Hid (BytesAt (w3.alloc (.cells #[.int .i64 3, .int .u16 0, .int .u16 0, .int .u32 0, .int .u16 0, .slice none 0 0, .int .u64 0, .int .u32 0, .int .u32 0, .int .u16 0, .int .u16 0, .int .u32 0, .int .u16 0] 31)) a5 m (fun i => x (1 + i))) := B5.grew a4
  have HD : Hid (PkAt (w3.alloc (.cells #[.int .i64 3, .int .u16 0, .int .u16 0, .int .u32 0, .int .u16 0, .slice none 0 0, .int .u64 0, .int .u32 0, .int .u32 0, .int .u16 0, .int .u16 0, .int .u32 0, .int .u16 0] 31)) w3.heap.size (pKind 3) none 0) := PkAt.made w3 31 (pKind 3) none 0
  have HG : Hid (w.heap.size < w3.heap.size) := V3.lt
  have HK : Hid (x 0 = 3) := hk
  have hc3 : Hid (m ≤ c3 - 1) := by show _ ≤ _; omega
  have i1 : (0 : Int) < (m : Int) + 1 := by omega
  have i2 : ((m : Int) + 1 == 0) = false := by simp; omega
  clear V3 b3 a4 B5 hk
  go_wp2_with fail
  generalize (w3.alloc (.cells #[.int .i64 3, .int .u16 0, .int .u16 0, .int .u32 0, .int .u16 0, .slice none 0 0, .int .u64 0, .int .u32 0, .int .u32 0, .int .u16 0, .int .u16 0, .int .u32 0, .int .u16 0] 31)) = w5 at *
  generalize w3.heap.size = G at *
  clear q
  refine (rtaken_any a5 m (c3 - 1) _ w5 HY.out hc3.out).mono ?_
  intro e w6 h
  obtain ⟨rfl, d6⟩ := h.none hm
  have hG := HG.out
  have D6 := HD.out.grew d6
  have V6 := HV.out.grew d6
  have b6 := HB.out.trans (d6.mono HB.out.size)
  have l5 := HB.out.size
  have g11 : w6.cell? ⟨G, 11, none⟩ = some (.int .u32 0) := D6.cell 11 (by decide)
  have g12 : w6.cell? ⟨G, 12, none⟩ = some (.int .u16 0) := D6.cell 12 (by decide)
  have y11 := D6.frz 11
  have y12 := D6.frz 12
  have V7 : PkAt ((w6.setCell ⟨G, 11, none⟩ (.int .u32 0)).setCell ⟨G, 12, none⟩ (.int .u16 0)) w.heap.size Pk.zero none 0 := VAt.putsOther (by omega) [.int .u32 0, .int .u16 0] 11 V6
  have b7 : Below w.heap.size w ((w6.setCell ⟨G, 11, none⟩ (.int .u32 0)).setCell ⟨G, 12, none⟩ (.int .u16 0)) := puts_below (Nat.le_of_lt hG) [.int .u32 0, .int .u16 0] 11 b6
  have D9 : Hid (PkAt (((((((((((((((w6.setCell ⟨G, 11, none⟩ (.int .u32 0)).setCell ⟨G, 12, none⟩ (.int .u16 0)).setCell ⟨w.heap.size, 0, none⟩ (.int .i64 0)).setCell ⟨w.heap.size, 1, none⟩ (.int .u16 0)).setCell ⟨w.heap.size, 2, none⟩ (.int .u16 0)).setCell ⟨w.heap.size, 3, none⟩ (.int .u32 0)).setCell ⟨w.heap.size, 4, none⟩ (.int .u16 0)).setCell ⟨w.heap.size, 5, none⟩ (.slice none 0 0)).setCell ⟨w.heap.size, 6, none⟩ (.int .u64 0)).setCell ⟨w.heap.size, 7, none⟩ (.int .u32 0)).setCell ⟨w.heap.size, 8, none⟩ (.int .u32 0)).setCell ⟨w.heap.size, 9, none⟩ (.int .u16 0)).setCell ⟨w.heap.size, 10, none⟩ (.int .u16 0)).setCell ⟨w.heap.size, 11, none⟩ (.int .u32 0)).setCell ⟨w.heap.size, 12, none⟩ (.int .u16 0)) w.heap.size Pk.zero none 0) := V7.write Pk.zero none 0
  have HA : Hid (TkIs w L x (.returned (.tuple #[.agg #[.int .i64 0, .int .u16 0, .int .u16 0, .int .u32 0, .int .u16 0, .slice none 0 0, .int .u64 0, .int .u32 0, .int .u32 0, .int .u16 0, .int .u16 0, .int .u32 0, .int .u16 0], .int .i64 2])) (((((((((((((((w6.setCell ⟨G, 11, none⟩ (.int .u32 0)).setCell ⟨G, 12, none⟩ (.int .u16 0)).setCell ⟨w.heap.size, 0, none⟩ (.int .i64 0)).setCell ⟨w.heap.size, 1, none⟩ (.int .u16 0)).setCell ⟨w.heap.size, 2, none⟩ (.int .u16 0)).setCell ⟨w.heap.size, 3, none⟩ (.int .u32 0)).setCell ⟨w.heap.size, 4, none⟩ (.int .u16 0)).setCell ⟨w.heap.size, 5, none⟩ (.slice none 0 0)).setCell ⟨w.heap.size, 6, none⟩ (.int .u64 0)).setCell ⟨w.heap.size, 7, none⟩ (.int .u32 0)).setCell ⟨w.heap.size, 8, none⟩ (.int .u32 0)).setCell ⟨w.heap.size, 9, none⟩ (.int .u16 0)).setCell ⟨w.heap.size, 10, none⟩ (.int .u16 0)).setCell ⟨w.heap.size, 11, none⟩ (.int .u32 0)).setCell ⟨w.heap.size, 12, none⟩ (.int .u16 0))) := TkIs.form h0 ((tk_in h1).trans (by rw [HK.out]; exact inP_nack_no hm)) (puts_below (Nat.le_refl _) [.int .i64 0, .int .u16 0, .int .u16 0, .int .u32 0, .int .u16 0, .slice none 0 0, .int .u64 0, .int .u32 0, .int .u32 0, .int .u16 0, .int .u16 0, .int .u32 0, .int .u16 0] 0 b7)
  have q0 : w6.cell? ⟨w.heap.size, 0, none⟩ = some (.int .i64 0) := V6.cell 0 (by decide)
  have q1 : w6.cell? ⟨w.heap.size, 1, none⟩ = some (.int .u16 0) := V6.cell 1 (by decide)
  have q2 : w6.cell? ⟨w.heap.size, 2, none⟩ = some (.int .u16 0) := V6.cell 2 (by decide)
  have q3 : w6.cell? ⟨w.heap.size, 3, none⟩ = some (.int .u32 0) := V6.cell 3 (by decide)
  have q4 : w6.cell? ⟨w.heap.size, 4, none⟩ = some (.int .u16 0) := V6.cell 4 (by decide)
  have q5 : w6.cell? ⟨w.heap.size, 5, none⟩ = some (.slice none 0 0) := V6.cell 5 (by decide)
  have q6 : w6.cell? ⟨w.heap.size, 6, none⟩ = some (.int .u64 0) := V6.cell 6 (by decide)
  have q7 : w6.cell? ⟨w.heap.size, 7, none⟩ = some (.int .u32 0) := V6.cell 7 (by decide)
  have q8 : w6.cell? ⟨w.heap.size, 8, none⟩ = some (.int .u32 0) := V6.cell 8 (by decide)
  have q9 : w6.cell? ⟨w.heap.size, 9, none⟩ = some (.int .u16 0) := V6.cell 9 (by decide)
  have q10 : w6.cell? ⟨w.heap.size, 10, none⟩ = some (.int .u16 0) := V6.cell 10 (by decide)
  have q11 : w6.cell? ⟨w.heap.size, 11, none⟩ = some (.int .u32 0) := V6.cell 11 (by decide)
  have q12 : w6.cell? ⟨w.heap.size, 12, none⟩ = some (.int .u16 0) := V6.cell 12 (by decide)
  have z0 := V6.frz 0
  have z1 := V6.frz 1
  have z2 := V6.frz 2
  have z3 := V6.frz 3
  have z4 := V6.frz 4
  have z5 := V6.frz 5
  have z6 := V6.frz 6
  have z7 := V6.frz 7
  have z8 := V6.frz 8
  have z9 := V6.frz 9
  have z10 := V6.frz 10
  have z11 := V6.frz 11
  have z12 := V6.frz 12
  have nG : w.heap.size ≠ G := by omega
  have nG2 : G ≠ w.heap.size := by omega
  clear V7 b7 D6 V6 b6 hG d6
  clear HD HV HB HY hsl h
  go_wp2
  generalize (((((((((((((((w6.setCell ⟨G, 11, none⟩ (.int .u32 0)).setCell ⟨G, 12, none⟩ (.int .u16 0)).setCell ⟨w.heap.size, 0, none⟩ (.int .i64 0)).setCell ⟨w.heap.size, 1, none⟩ (.int .u16 0)).setCell ⟨w.heap.size, 2, none⟩ (.int .u16 0)).setCell ⟨w.heap.size, 3, none⟩ (.int .u32 0)).setCell ⟨w.heap.size, 4, none⟩ (.int .u16 0)).setCell ⟨w.heap.size, 5, none⟩ (.slice none 0 0)).setCell ⟨w.heap.size, 6, none⟩ (.int .u64 0)).setCell ⟨w.heap.size, 7, none⟩ (.int .u32 0)).setCell ⟨w.heap.size, 8, none⟩ (.int .u32 0)).setCell ⟨w.heap.size, 9, none⟩ (.int .u16 0)).setCell ⟨w.heap.size, 10, none⟩ (.int .u16 0)).setCell ⟨w.heap.size, 11, none⟩ (.int .u32 0)).setCell ⟨w.heap.size, 12, none⟩ (.int .u16 0)) = w9 at *
  clear q0 q1 q2 q3 q4 q5 q6 q7 q8 q9 q10 q11 q12 z0 z1 z2 z3 z4 z5 z6 z7 z8 z9 z10 z11 z12
  have s0 : w9.cell? ⟨w.heap.size, 0, none⟩ = some (.int .i64 0) := D9.out.cell 0 (by decide)
  have s1 : w9.cell? ⟨w.heap.size, 1, none⟩ = some (.int .u16 0) := D9.out.cell 1 (by decide)
  have s2 : w9.cell? ⟨w.heap.size, 2, none⟩ = some (.int .u16 0) := D9.out.cell 2 (by decide)
  have s3 : w9.cell? ⟨w.heap.size, 3, none⟩ = some (.int .u32 0) := D9.out.cell 3 (by decide)
  have s4 : w9.cell? ⟨w.heap.size, 4, none⟩ = some (.int .u16 0) := D9.out.cell 4 (by decide)
  have s5 : w9.cell? ⟨w.heap.size, 5, none⟩ = some (.slice none 0 0) := D9.out.cell 5 (by decide)
  have s6 : w9.cell? ⟨w.heap.size, 6, none⟩ = some (.int .u64 0) := D9.out.cell 6 (by decide)
  have s7 : w9.cell? ⟨w.heap.size, 7, none⟩ = some (.int .u32 0) := D9.out.cell 7 (by decide)
  have s8 : w9.cell? ⟨w.heap.size, 8, none⟩ = some (.int .u32 0) := D9.out.cell 8 (by decide)
  have s9 : w9.cell? ⟨w.heap.size, 9, none⟩ = some (.int .u16 0) := D9.out.cell 9 (by decide)
  have s10 : w9.cell? ⟨w.heap.size, 10, none⟩ = some (.int .u16 0) := D9.out.cell 10 (by decide)
  have s11 : w9.cell? ⟨w.heap.size, 11, none⟩ = some (.int .u32 0) := D9.out.cell 11 (by decide)
  have s12 : w9.cell? ⟨w.heap.size, 12, none⟩ = some (.int .u16 0) := D9.out.cell 12 (by decide)
  refine bodyPost_ret (v := .tuple #[.agg #[.int .i64 0, .int .u16 0, .int .u16 0, .int .u32 0, .int .u16 0, .slice none 0 0, .int .u64 0, .int .u32 0, .int .u32 0, .int .u16 0, .int .u16 0, .int .u32 0, .int .u16 0], .int .i64 2]) ?_ rfl HA.out
  simp [results, Try.results12, go_sem, s0, s1, s2, s3, s4, s5, s6, s7, s8, s9, s10, s11, s12]

set_option maxRecDepth 100000 in
set_option maxHeartbeats 2000000 in
theorem rpt_nack_yes (a : Option Addr) (L c : Nat) (x : Nat → Nat) (w : World) (hx : BytesAt w a L x) (hc : L ≤ c) (hn : L ≤ 100000) (m : Nat) (h0 : opB x L = true) (h1 : opN x L = m + 1) (hk : x 0 = 3) (f d : Nat) (q : Pk) (hq : q = (pNack f d)) (hI : inP 3 m (fun i => x (1 + i)) = some q) (HT : ∀ W e W', NackTake W m (fun i => x (1 + i)) e W' → NackIs W f d 0 e W') :
    Calls Try.prog 12 #[.slice a L c] w fun e w' => TkIs w L x e w' := by
  have V1 : Hid (PkAt (w.alloc (.cells #[.int .i64 0, .int .u16 0, .int .u16 0, .int .u32 0, .int .u16 0, .slice none 0 0, .int .u64 0, .int .u32 0, .int .u32 0, .int .u16 0, .int .u16 0, .int .u32 0, .int .u16 0] 31)) w.heap.size Pk.zero none 0) := PkAt.made w _ Pk.zero none 0
  have b1 : Hid (Below w.heap.size w (w.alloc (.cells #[.int .i64 0, .int .u16 0, .int .u16 0, .int .u32 0, .int .u16 0, .slice none 0 0, .int .u64 0, .int .u32 0, .int .u32 0, .int .u16 0, .int .u16 0, .int .u32 0, .int .u16 0] 31))) := (Below.refl _ _).alloc (Nat.le_refl _) _
  have HX : Hid (BytesAt w a L x) := hx
  clear hx
  go_enter Try.func12, Try.ntmps12
  go_wp2_with fail
  generalize (w.alloc (.cells #[.int .i64 0, .int .u16 0, .int .u16 0, .int .u32 0, .int .u16 0, .slice none 0 0, .int .u64 0, .int .u32 0, .int .u32 0, .int .u16 0, .int .u16 0, .int .u32 0, .int .u16 0] 31)) = w2 at *
  refine (ropen_any a L c x w2 (HX.out.grew b1.out) hc hn).mono ?_
  intro e w3 h
  rw [h0, h1] at h
  obtain ⟨r3, c3, rfl, k1, -, k3, k4, d3⟩ := h
  have V3 := V1.out.grew d3
  have b3 := b1.out.trans (d3.mono b1.out.size)
  clear V1 b1 d3
  obtain ⟨g3, rfl, -⟩ := k3 (by omega)
  have q := bytes_cell k4 0 (by omega)
  rw [Nat.add_zero] at q
  have lk := k4.lt 0 (by omega)
  obtain ⟨a5, hsl, B5⟩ := slice_left (some ⟨g3, 0, none⟩) (m + 1) c3 1 x w3 k4 (by omega) (by omega) k1
  rw [Nat.add_sub_cancel] at hsl B5
  have hsl : ∀ W, (Instr.slice 24 (.slice (some ⟨g3, 0, none⟩) (m + 1) c3) (some (.int .i64 1)) none none).run Try.prog W = .ok (.slice a5 m (c3 - 1)) W := hsl
  clear k3 k4
  rw [hk] at q lk
  have q : w3.cell? ⟨g3, 0, none⟩ = some (.int .u8 3) := q
  have a4 : Below w3.heap.size w3 (w3.alloc (.cells #[.int .i64 3, .int .u16 0, .int .u16 0, .int .u32 0, .int .u16 0, .slice none 0 0, .int .u64 0, .int .u32 0, .int .u32 0, .int .u16 0, .int .u16 0, .int .u32 0, .int .u16 0] 31)) := (Below.refl _ _).alloc (Nat.le_refl _) _
  have HV : Hid (PkAt (w3.alloc (.cells #[.int .i64 3, .int .u16 0, .int .u16 0, .int .u32 0, .int .u16 0, .slice none 0 0, .int .u64 0, .int .u32 0, .int .u32 0, .int .u16 0, .int .u16 0, .int .u32 0, .int .u16 0] 31)) w.heap.size Pk.zero none 0) := V3.grew a4
  have HB : Hid (Below w.heap.size w (w3.alloc (.cells #[.int .i64 3, .int .u16 0, .int .u16 0, .int .u32 0, .int .u16 0, .slice none 0 0, .int .u64 0, .int .u32 0, .int .u32 0, .int .u16 0, .int .u16 0, .int .u32 0, .int .u16 0] 31))) := b3.trans (a4.mono b3.size)
  have HY : Hid (BytesAt (w3.alloc (.cells #[.int .i64 3, .int .u16 0, .int .u16 0, .int .u32 0, .int .u16 0, .slice none 0 0, .int .u64 0, .int .u32 0, .int .u32 0, .int .u16 0, .int .u16 0, .int .u32 0, .int .u16 0] 31)) a5 m (fun i => x (1 + i))) := B5.grew a4
  have HD : Hid (PkAt (w3.alloc (.cells #[.int .i64 3, .int .u16 0, .int .u16 0, .int .u32 0, .int .u16 0, .slice none 0 0, .int .u64 0, .int .u32 0, .int .u32 0, .int .u16 0, .int .u16 0, .int .u32 0, .int .u16 0] 31)) w3.heap.size (pKind 3) none 0) := PkAt.made w3 31 (pKind 3) none 0
  have HG : Hid (w.heap.size < w3.heap.size) := V3.lt
  have HK : Hid (x 0 = 3) := hk
  have hc3 : Hid (m ≤ c3 - 1) := by show _ ≤ _; omega
  have i1 : (0 : Int) < (m : Int) + 1 := by omega
  have i2 : ((m : Int) + 1 == 0) = false := by simp; omega
  clear V3 b3 a4 B5 hk
  go_wp2_with fail
  generalize (w3.alloc (.cells #[.int .i64 3, .int .u16 0, .int .u16 0, .int .u32 0, .int .u16 0, .slice none 0 0, .int .u64 0, .int .u32 0, .int .u32 0, .int .u16 0, .int .u16 0, .int .u32 0, .int .u16 0] 31)) = w5 at *
  generalize w3.heap.size = G at *
  clear q
  refine (rtaken_any a5 m (c3 - 1) _ w5 HY.out hc3.out).mono ?_
  intro e w6 h
  obtain ⟨rfl, d6⟩ := HT _ _ _ h
  have hG := HG.out
  have D6 := HD.out.grew d6
  have V6 := HV.out.grew d6
  have b6 := HB.out.trans (d6.mono HB.out.size)
  have l5 := HB.out.size
  have g11 : w6.cell? ⟨G, 11, none⟩ = some (.int .u32 0) := D6.cell 11 (by decide)
  have g12 : w6.cell? ⟨G, 12, none⟩ = some (.int .u16 0) := D6.cell 12 (by decide)
  have y11 := D6.frz 11
  have y12 := D6.frz 12
  have D7 : PkAt ((w6.setCell ⟨G, 11, none⟩ (.int .u32 (f : Int))).setCell ⟨G, 12, none⟩ (.int .u16 (d : Int))) G (pNack f d) none 0 := D6.run 11 [.int .u32 (f : Int), .int .u16 (d : Int)] (Nat.le_of_ble_eq_true rfl) fun j hj => match j, hj with
    | 0, _ => rfl
    | 1, _ => rfl
    | 2, _ => rfl
    | 3, _ => rfl
    | 4, _ => rfl
    | 5, _ => rfl
    | 6, _ => rfl
    | 7, _ => rfl
    | 8, _ => rfl
    | 9, _ => rfl
    | 10, _ => rfl
    | 11, _ => rfl
    | 12, _ => rfl
  have V7 : PkAt ((w6.setCell ⟨G, 11, none⟩ (.int .u32 (f : Int))).setCell ⟨G, 12, none⟩ (.int .u16 (d : Int))) w.heap.size Pk.zero none 0 := VAt.putsOther (by omega) [.int .u32 (f : Int), .int .u16 (d : Int)] 11 V6
  have b7 : Below w.heap.size w ((w6.setCell ⟨G, 11, none⟩ (.int .u32 (f : Int))).setCell ⟨G, 12, none⟩ (.int .u16 (d : Int))) := puts_below (Nat.le_of_lt hG) [.int .u32 (f : Int), .int .u16 (d : Int)] 11 b6
  have B7 : BytesAt ((w6.setCell ⟨G, 11, none⟩ (.int .u32 (f : Int))).setCell ⟨G, 12, none⟩ (.int .u16 (d : Int))) none (pNack f d).n (pNack f d).x := nil_bytes _ _
  have D9 : Hid (PkAt (((((((((((((((w6.setCell ⟨G, 11, none⟩ (.int .u32 (f : Int))).setCell ⟨G, 12, none⟩ (.int .u16 (d : Int))).setCell ⟨w.heap.size, 0, none⟩ (.int .i64 3)).setCell ⟨w.heap.size, 1, none⟩ (.int .u16 0)).setCell ⟨w.heap.size, 2, none⟩ (.int .u16 0)).setCell ⟨w.heap.size, 3, none⟩ (.int .u32 0)).setCell ⟨w.heap.size, 4, none⟩ (.int .u16 0)).setCell ⟨w.heap.size, 5, none⟩ (.slice none 0 0)).setCell ⟨w.heap.size, 6, none⟩ (.int .u64 0)).setCell ⟨w.heap.size, 7, none⟩ (.int .u32 0)).setCell ⟨w.heap.size, 8, none⟩ (.int .u32 0)).setCell ⟨w.heap.size, 9, none⟩ (.int .u16 0)).setCell ⟨w.heap.size, 10, none⟩ (.int .u16 0)).setCell ⟨w.heap.size, 11, none⟩ (.int .u32 (f : Int))).setCell ⟨w.heap.size, 12, none⟩ (.int .u16 (d : Int))) w.heap.size (pNack f d) none 0) := V7.write (pNack f d) none 0
  have HA : Hid (TkIs w L x (.returned (.tuple #[.agg #[.int .i64 3, .int .u16 0, .int .u16 0, .int .u32 0, .int .u16 0, .slice none 0 0, .int .u64 0, .int .u32 0, .int .u32 0, .int .u16 0, .int .u16 0, .int .u32 (f : Int), .int .u16 (d : Int)], .int .i64 0])) (((((((((((((((w6.setCell ⟨G, 11, none⟩ (.int .u32 (f : Int))).setCell ⟨G, 12, none⟩ (.int .u16 (d : Int))).setCell ⟨w.heap.size, 0, none⟩ (.int .i64 3)).setCell ⟨w.heap.size, 1, none⟩ (.int .u16 0)).setCell ⟨w.heap.size, 2, none⟩ (.int .u16 0)).setCell ⟨w.heap.size, 3, none⟩ (.int .u32 0)).setCell ⟨w.heap.size, 4, none⟩ (.int .u16 0)).setCell ⟨w.heap.size, 5, none⟩ (.slice none 0 0)).setCell ⟨w.heap.size, 6, none⟩ (.int .u64 0)).setCell ⟨w.heap.size, 7, none⟩ (.int .u32 0)).setCell ⟨w.heap.size, 8, none⟩ (.int .u32 0)).setCell ⟨w.heap.size, 9, none⟩ (.int .u16 0)).setCell ⟨w.heap.size, 10, none⟩ (.int .u16 0)).setCell ⟨w.heap.size, 11, none⟩ (.int .u32 (f : Int))).setCell ⟨w.heap.size, 12, none⟩ (.int .u16 (d : Int)))) := TkIs.yes h0 ((tk_in h1).trans (by rw [HK.out, hI, hq])) (Nat.le_refl _) (fun h => absurd h (Nat.lt_irrefl 0)) (BytesAt.puts [.int .i64 3, .int .u16 0, .int .u16 0, .int .u32 0, .int .u16 0, .slice none 0 0, .int .u64 0, .int .u32 0, .int .u32 0, .int .u16 0, .int .u16 0, .int .u32 (f : Int), .int .u16 (d : Int)] 0 B7 V7.vat (Nat.le_refl 13) (Pk.noByte _ _ _)) (puts_below (Nat.le_refl _) [.int .i64 3, .int .u16 0, .int .u16 0, .int .u32 0, .int .u16 0, .slice none 0 0, .int .u64 0, .int .u32 0, .int .u32 0, .int .u16 0, .int .u16 0, .int .u32 (f : Int), .int .u16 (d : Int)] 0 b7)
  have q0 : w6.cell? ⟨w.heap.size, 0, none⟩ = some (.int .i64 0) := V6.cell 0 (by decide)
  have q1 : w6.cell? ⟨w.heap.size, 1, none⟩ = some (.int .u16 0) := V6.cell 1 (by decide)
  have q2 : w6.cell? ⟨w.heap.size, 2, none⟩ = some (.int .u16 0) := V6.cell 2 (by decide)
  have q3 : w6.cell? ⟨w.heap.size, 3, none⟩ = some (.int .u32 0) := V6.cell 3 (by decide)
  have q4 : w6.cell? ⟨w.heap.size, 4, none⟩ = some (.int .u16 0) := V6.cell 4 (by decide)
  have q5 : w6.cell? ⟨w.heap.size, 5, none⟩ = some (.slice none 0 0) := V6.cell 5 (by decide)
  have q6 : w6.cell? ⟨w.heap.size, 6, none⟩ = some (.int .u64 0) := V6.cell 6 (by decide)
  have q7 : w6.cell? ⟨w.heap.size, 7, none⟩ = some (.int .u32 0) := V6.cell 7 (by decide)
  have q8 : w6.cell? ⟨w.heap.size, 8, none⟩ = some (.int .u32 0) := V6.cell 8 (by decide)
  have q9 : w6.cell? ⟨w.heap.size, 9, none⟩ = some (.int .u16 0) := V6.cell 9 (by decide)
  have q10 : w6.cell? ⟨w.heap.size, 10, none⟩ = some (.int .u16 0) := V6.cell 10 (by decide)
  have q11 : w6.cell? ⟨w.heap.size, 11, none⟩ = some (.int .u32 0) := V6.cell 11 (by decide)
  have q12 : w6.cell? ⟨w.heap.size, 12, none⟩ = some (.int .u16 0) := V6.cell 12 (by decide)
  have z0 := V6.frz 0
  have z1 := V6.frz 1
  have z2 := V6.frz 2
  have z3 := V6.frz 3
  have z4 := V6.frz 4
  have z5 := V6.frz 5
  have z6 := V6.frz 6
  have z7 := V6.frz 7
  have z8 := V6.frz 8
  have z9 := V6.frz 9
  have z10 := V6.frz 10
  have z11 := V6.frz 11
  have z12 := V6.frz 12
  have g0 : w6.cell? ⟨G, 0, none⟩ = some (.int .i64 3) := D6.cell 0 (by decide)
  have g1 : w6.cell? ⟨G, 1, none⟩ = some (.int .u16 0) := D6.cell 1 (by decide)
  have g2 : w6.cell? ⟨G, 2, none⟩ = some (.int .u16 0) := D6.cell 2 (by decide)
  have g3 : w6.cell? ⟨G, 3, none⟩ = some (.int .u32 0) := D6.cell 3 (by decide)
  have g4 : w6.cell? ⟨G, 4, none⟩ = some (.int .u16 0) := D6.cell 4 (by decide)
  have g5 : w6.cell? ⟨G, 5, none⟩ = some (.slice none 0 0) := D6.cell 5 (by decide)
  have g6 : w6.cell? ⟨G, 6, none⟩ = some (.int .u64 0) := D6.cell 6 (by decide)
  have g7 : w6.cell? ⟨G, 7, none⟩ = some (.int .u32 0) := D6.cell 7 (by decide)
  have g8 : w6.cell? ⟨G, 8, none⟩ = some (.int .u32 0) := D6.cell 8 (by decide)
  have g9 : w6.cell? ⟨G, 9, none⟩ = some (.int .u16 0) := D6.cell 9 (by decide)
  have g10 : w6.cell? ⟨G, 10, none⟩ = some (.int .u16 0) := D6.cell 10 (by decide)
  have nG : w.heap.size ≠ G := by omega
  have nG2 : G ≠ w.heap.size := by omega
  clear V7 b7 D7 B7 D6 V6 b6 hG d6
  clear HD HV HB HY hsl h
  go_wp2
  generalize (((((((((((((((w6.setCell ⟨G, 11, none⟩ (.int .u32 (f : Int))).setCell ⟨G, 12, none⟩ (.int .u16 (d : Int))).setCell ⟨w.heap.size, 0, none⟩ (.int .i64 3)).setCell ⟨w.heap.size, 1, none⟩ (.int .u16 0)).setCell ⟨w.heap.size, 2, none⟩ (.int .u16 0)).setCell ⟨w.heap.size, 3, none⟩ (.int .u32 0)).setCell ⟨w.heap.size, 4, none⟩ (.int .u16 0)).setCell ⟨w.heap.size, 5, none⟩ (.slice none 0 0)).setCell ⟨w.heap.size, 6, none⟩ (.int .u64 0)).setCell ⟨w.heap.size, 7, none⟩ (.int .u32 0)).setCell ⟨w.heap.size, 8, none⟩ (.int .u32 0)).setCell ⟨w.heap.size, 9, none⟩ (.int .u16 0)).setCell ⟨w.heap.size, 10, none⟩ (.int .u16 0)).setCell ⟨w.heap.size, 11, none⟩ (.int .u32 (f : Int))).setCell ⟨w.heap.size, 12, none⟩ (.int .u16 (d : Int))) = w9 at *
  clear q0 q1 q2 q3 q4 q5 q6 q7 q8 q9 q10 q11 q12 z0 z1 z2 z3 z4 z5 z6 z7 z8 z9 z10 z11 z12
  have s0 : w9.cell? ⟨w.heap.size, 0, none⟩ = some (.int .i64 3) := D9.out.cell 0 (by decide)
  have s1 : w9.cell? ⟨w.heap.size, 1, none⟩ = some (.int .u16 0) := D9.out.cell 1 (by decide)
  have s2 : w9.cell? ⟨w.heap.size, 2, none⟩ = some (.int .u16 0) := D9.out.cell 2 (by decide)
  have s3 : w9.cell? ⟨w.heap.size, 3, none⟩ = some (.int .u32 0) := D9.out.cell 3 (by decide)
  have s4 : w9.cell? ⟨w.heap.size, 4, none⟩ = some (.int .u16 0) := D9.out.cell 4 (by decide)
  have s5 : w9.cell? ⟨w.heap.size, 5, none⟩ = some (.slice none 0 0) := D9.out.cell 5 (by decide)
  have s6 : w9.cell? ⟨w.heap.size, 6, none⟩ = some (.int .u64 0) := D9.out.cell 6 (by decide)
  have s7 : w9.cell? ⟨w.heap.size, 7, none⟩ = some (.int .u32 0) := D9.out.cell 7 (by decide)
  have s8 : w9.cell? ⟨w.heap.size, 8, none⟩ = some (.int .u32 0) := D9.out.cell 8 (by decide)
  have s9 : w9.cell? ⟨w.heap.size, 9, none⟩ = some (.int .u16 0) := D9.out.cell 9 (by decide)
  have s10 : w9.cell? ⟨w.heap.size, 10, none⟩ = some (.int .u16 0) := D9.out.cell 10 (by decide)
  have s11 : w9.cell? ⟨w.heap.size, 11, none⟩ = some (.int .u32 (f : Int)) := D9.out.cell 11 (by decide)
  have s12 : w9.cell? ⟨w.heap.size, 12, none⟩ = some (.int .u16 (d : Int)) := D9.out.cell 12 (by decide)
  refine bodyPost_ret (v := .tuple #[.agg #[.int .i64 3, .int .u16 0, .int .u16 0, .int .u32 0, .int .u16 0, .slice none 0 0, .int .u64 0, .int .u32 0, .int .u32 0, .int .u16 0, .int .u16 0, .int .u32 (f : Int), .int .u16 (d : Int)], .int .i64 0]) ?_ rfl HA.out
  simp [results, Try.results12, go_sem, s0, s1, s2, s3, s4, s5, s6, s7, s8, s9, s10, s11, s12]

set_option maxRecDepth 100000 in
set_option maxHeartbeats 2000000 in
theorem rpt_rep_no (a : Option Addr) (L c : Nat) (x : Nat → Nat) (w : World) (hx : BytesAt w a L x) (hc : L ≤ c) (hn : L ≤ 100000) (m : Nat) (h0 : opB x L = true) (h1 : opN x L = m + 1) (hk : x 0 = 2) (hm : m ≠ 20) :
    Calls Try.prog 12 #[.slice a L c] w fun e w' => TkIs w L x e w' := by
  have V1 : Hid (PkAt (w.alloc (.cells #[.int .i64 0, .int .u16 0, .int .u16 0, .int .u32 0, .int .u16 0, .slice none 0 0, .int .u64 0, .int .u32 0, .int .u32 0, .int .u16 0, .int .u16 0, .int .u32 0, .int .u16 0] 31)) w.heap.size Pk.zero none 0) := PkAt.made w _ Pk.zero none 0
  have b1 : Hid (Below w.heap.size w (w.alloc (.cells #[.int .i64 0, .int .u16 0, .int .u16 0, .int .u32 0, .int .u16 0, .slice none 0 0, .int .u64 0, .int .u32 0, .int .u32 0, .int .u16 0, .int .u16 0, .int .u32 0, .int .u16 0] 31))) := (Below.refl _ _).alloc (Nat.le_refl _) _
  have HX : Hid (BytesAt w a L x) := hx
  clear hx
  go_enter Try.func12, Try.ntmps12
  go_wp2_with fail
  generalize (w.alloc (.cells #[.int .i64 0, .int .u16 0, .int .u16 0, .int .u32 0, .int .u16 0, .slice none 0 0, .int .u64 0, .int .u32 0, .int .u32 0, .int .u16 0, .int .u16 0, .int .u32 0, .int .u16 0] 31)) = w2 at *
  refine (ropen_any a L c x w2 (HX.out.grew b1.out) hc hn).mono ?_
  intro e w3 h
  rw [h0, h1] at h
  obtain ⟨r3, c3, rfl, k1, -, k3, k4, d3⟩ := h
  have V3 := V1.out.grew d3
  have b3 := b1.out.trans (d3.mono b1.out.size)
  clear V1 b1 d3
  obtain ⟨g3, rfl, -⟩ := k3 (by omega)
  have q := bytes_cell k4 0 (by omega)
  rw [Nat.add_zero] at q
  have lk := k4.lt 0 (by omega)
  obtain ⟨a5, hsl, B5⟩ := slice_left (some ⟨g3, 0, none⟩) (m + 1) c3 1 x w3 k4 (by omega) (by omega) k1
  rw [Nat.add_sub_cancel] at hsl B5
  have hsl : ∀ W, (Instr.slice 24 (.slice (some ⟨g3, 0, none⟩) (m + 1) c3) (some (.int .i64 1)) none none).run Try.prog W = .ok (.slice a5 m (c3 - 1)) W := hsl
  clear k3 k4
  rw [hk] at q lk
  have q : w3.cell? ⟨g3, 0, none⟩ = some (.int .u8 2) := q
  have a4 : Below w3.heap.size w3 (w3.alloc (.cells #[.int .i64 2, .int .u16 0, .int .u16 0, .int .u32 0, .int .u16 0, .slice none 0 0, .int .u64 0, .int .u32 0, .int .u32 0, .int .u16 0, .int .u16 0, .int .u32 0, .int .u16 0] 31)) := (Below.refl _ _).alloc (Nat.le_refl _) _
  have HV : Hid (PkAt (w3.alloc (.cells #[.int .i64 2, .int .u16 0, .int .u16 0, .int .u32 0, .int .u16 0, .slice none 0 0, .int .u64 0, .int .u32 0, .int .u32 0, .int .u16 0, .int .u16 0, .int .u32 0, .int .u16 0] 31)) w.heap.size Pk.zero none 0) := V3.grew a4
  have HB : Hid (Below w.heap.size w (w3.alloc (.cells #[.int .i64 2, .int .u16 0, .int .u16 0, .int .u32 0, .int .u16 0, .slice none 0 0, .int .u64 0, .int .u32 0, .int .u32 0, .int .u16 0, .int .u16 0, .int .u32 0, .int .u16 0] 31))) := b3.trans (a4.mono b3.size)
  have HY : Hid (BytesAt (w3.alloc (.cells #[.int .i64 2, .int .u16 0, .int .u16 0, .int .u32 0, .int .u16 0, .slice none 0 0, .int .u64 0, .int .u32 0, .int .u32 0, .int .u16 0, .int .u16 0, .int .u32 0, .int .u16 0] 31)) a5 m (fun i => x (1 + i))) := B5.grew a4
  have HD : Hid (PkAt (w3.alloc (.cells #[.int .i64 2, .int .u16 0, .int .u16 0, .int .u32 0, .int .u16 0, .slice none 0 0, .int .u64 0, .int .u32 0, .int .u32 0, .int .u16 0, .int .u16 0, .int .u32 0, .int .u16 0] 31)) w3.heap.size (pKind 2) none 0) := PkAt.made w3 31 (pKind 2) none 0
  have HG : Hid (w.heap.size < w3.heap.size) := V3.lt
  have HK : Hid (x 0 = 2) := hk
  have hc3 : Hid (m ≤ c3 - 1) := by show _ ≤ _; omega
  have i1 : (0 : Int) < (m : Int) + 1 := by omega
  have i2 : ((m : Int) + 1 == 0) = false := by simp; omega
  clear V3 b3 a4 B5 hk
  go_wp2_with fail
  generalize (w3.alloc (.cells #[.int .i64 2, .int .u16 0, .int .u16 0, .int .u32 0, .int .u16 0, .slice none 0 0, .int .u64 0, .int .u32 0, .int .u32 0, .int .u16 0, .int .u16 0, .int .u32 0, .int .u16 0] 31)) = w5 at *
  generalize w3.heap.size = G at *
  clear q
  refine (rtaker_any a5 m (c3 - 1) _ w5 HY.out hc3.out).mono ?_
  intro e w6 h
  obtain ⟨rfl, d6⟩ := h.none hm
  have hG := HG.out
  have D6 := HD.out.grew d6
  have V6 := HV.out.grew d6
  have b6 := HB.out.trans (d6.mono HB.out.size)
  have l5 := HB.out.size
  have g6 : w6.cell? ⟨G, 6, none⟩ = some (.int .u64 0) := D6.cell 6 (by decide)
  have g7 : w6.cell? ⟨G, 7, none⟩ = some (.int .u32 0) := D6.cell 7 (by decide)
  have g8 : w6.cell? ⟨G, 8, none⟩ = some (.int .u32 0) := D6.cell 8 (by decide)
  have g9 : w6.cell? ⟨G, 9, none⟩ = some (.int .u16 0) := D6.cell 9 (by decide)
  have g10 : w6.cell? ⟨G, 10, none⟩ = some (.int .u16 0) := D6.cell 10 (by decide)
  have y6 := D6.frz 6
  have y7 := D6.frz 7
  have y8 := D6.frz 8
  have y9 := D6.frz 9
  have y10 := D6.frz 10
  have V7 : PkAt (((((w6.setCell ⟨G, 6, none⟩ (.int .u64 0)).setCell ⟨G, 7, none⟩ (.int .u32 0)).setCell ⟨G, 8, none⟩ (.int .u32 0)).setCell ⟨G, 9, none⟩ (.int .u16 0)).setCell ⟨G, 10, none⟩ (.int .u16 0)) w.heap.size Pk.zero none 0 := VAt.putsOther (by omega) [.int .u64 0, .int .u32 0, .int .u32 0, .int .u16 0, .int .u16 0] 6 V6
  have b7 : Below w.heap.size w (((((w6.setCell ⟨G, 6, none⟩ (.int .u64 0)).setCell ⟨G, 7, none⟩ (.int .u32 0)).setCell ⟨G, 8, none⟩ (.int .u32 0)).setCell ⟨G, 9, none⟩ (.int .u16 0)).setCell ⟨G, 10, none⟩ (.int .u16 0)) := puts_below (Nat.le_of_lt hG) [.int .u64 0, .int .u32 0, .int .u32 0, .int .u16 0, .int .u16 0] 6 b6
  have D9 : Hid (PkAt ((((((((((((((((((w6.setCell ⟨G, 6, none⟩ (.int .u64 0)).setCell ⟨G, 7, none⟩ (.int .u32 0)).setCell ⟨G, 8, none⟩ (.int .u32 0)).setCell ⟨G, 9, none⟩ (.int .u16 0)).setCell ⟨G, 10, none⟩ (.int .u16 0)).setCell ⟨w.heap.size, 0, none⟩ (.int .i64 0)).setCell ⟨w.heap.size, 1, none⟩ (.int .u16 0)).setCell ⟨w.heap.size, 2, none⟩ (.int .u16 0)).setCell ⟨w.heap.size, 3, none⟩ (.int .u32 0)).setCell ⟨w.heap.size, 4, none⟩ (.int .u16 0)).setCell ⟨w.heap.size, 5, none⟩ (.slice none 0 0)).setCell ⟨w.heap.size, 6, none⟩ (.int .u64 0)).setCell ⟨w.heap.size, 7, none⟩ (.int .u32 0)).setCell ⟨w.heap.size, 8, none⟩ (.int .u32 0)).setCell ⟨w.heap.size, 9, none⟩ (.int .u16 0)).setCell ⟨w.heap.size, 10, none⟩ (.int .u16 0)).setCell ⟨w.heap.size, 11, none⟩ (.int .u32 0)).setCell ⟨w.heap.size, 12, none⟩ (.int .u16 0)) w.heap.size Pk.zero none 0) := V7.write Pk.zero none 0
  have HA : Hid (TkIs w L x (.returned (.tuple #[.agg #[.int .i64 0, .int .u16 0, .int .u16 0, .int .u32 0, .int .u16 0, .slice none 0 0, .int .u64 0, .int .u32 0, .int .u32 0, .int .u16 0, .int .u16 0, .int .u32 0, .int .u16 0], .int .i64 2])) ((((((((((((((((((w6.setCell ⟨G, 6, none⟩ (.int .u64 0)).setCell ⟨G, 7, none⟩ (.int .u32 0)).setCell ⟨G, 8, none⟩ (.int .u32 0)).setCell ⟨G, 9, none⟩ (.int .u16 0)).setCell ⟨G, 10, none⟩ (.int .u16 0)).setCell ⟨w.heap.size, 0, none⟩ (.int .i64 0)).setCell ⟨w.heap.size, 1, none⟩ (.int .u16 0)).setCell ⟨w.heap.size, 2, none⟩ (.int .u16 0)).setCell ⟨w.heap.size, 3, none⟩ (.int .u32 0)).setCell ⟨w.heap.size, 4, none⟩ (.int .u16 0)).setCell ⟨w.heap.size, 5, none⟩ (.slice none 0 0)).setCell ⟨w.heap.size, 6, none⟩ (.int .u64 0)).setCell ⟨w.heap.size, 7, none⟩ (.int .u32 0)).setCell ⟨w.heap.size, 8, none⟩ (.int .u32 0)).setCell ⟨w.heap.size, 9, none⟩ (.int .u16 0)).setCell ⟨w.heap.size, 10, none⟩ (.int .u16 0)).setCell ⟨w.heap.size, 11, none⟩ (.int .u32 0)).setCell ⟨w.heap.size, 12, none⟩ (.int .u16 0))) := TkIs.form h0 ((tk_in h1).trans (by rw [HK.out]; exact inP_rep_no hm)) (puts_below (Nat.le_refl _) [.int .i64 0, .int .u16 0, .int .u16 0, .int .u32 0, .int .u16 0, .slice none 0 0, .int .u64 0, .int .u32 0, .int .u32 0, .int .u16 0, .int .u16 0, .int .u32 0, .int .u16 0] 0 b7)
  have q0 : w6.cell? ⟨w.heap.size, 0, none⟩ = some (.int .i64 0) := V6.cell 0 (by decide)
  have q1 : w6.cell? ⟨w.heap.size, 1, none⟩ = some (.int .u16 0) := V6.cell 1 (by decide)
  have q2 : w6.cell? ⟨w.heap.size, 2, none⟩ = some (.int .u16 0) := V6.cell 2 (by decide)
  have q3 : w6.cell? ⟨w.heap.size, 3, none⟩ = some (.int .u32 0) := V6.cell 3 (by decide)
  have q4 : w6.cell? ⟨w.heap.size, 4, none⟩ = some (.int .u16 0) := V6.cell 4 (by decide)
  have q5 : w6.cell? ⟨w.heap.size, 5, none⟩ = some (.slice none 0 0) := V6.cell 5 (by decide)
  have q6 : w6.cell? ⟨w.heap.size, 6, none⟩ = some (.int .u64 0) := V6.cell 6 (by decide)
  have q7 : w6.cell? ⟨w.heap.size, 7, none⟩ = some (.int .u32 0) := V6.cell 7 (by decide)
  have q8 : w6.cell? ⟨w.heap.size, 8, none⟩ = some (.int .u32 0) := V6.cell 8 (by decide)
  have q9 : w6.cell? ⟨w.heap.size, 9, none⟩ = some (.int .u16 0) := V6.cell 9 (by decide)
  have q10 : w6.cell? ⟨w.heap.size, 10, none⟩ = some (.int .u16 0) := V6.cell 10 (by decide)
  have q11 : w6.cell? ⟨w.heap.size, 11, none⟩ = some (.int .u32 0) := V6.cell 11 (by decide)
  have q12 : w6.cell? ⟨w.heap.size, 12, none⟩ = some (.int .u16 0) := V6.cell 12 (by decide)
  have z0 := V6.frz 0
  have z1 := V6.frz 1
  have z2 := V6.frz 2
  have z3 := V6.frz 3
  have z4 := V6.frz 4
  have z5 := V6.frz 5
  have z6 := V6.frz 6
  have z7 := V6.frz 7
  have z8 := V6.frz 8
  have z9 := V6.frz 9
  have z10 := V6.frz 10
  have z11 := V6.frz 11
  have z12 := V6.frz 12
  have nG : w.heap.size ≠ G := by omega
  have nG2 : G ≠ w.heap.size := by omega
  clear V7 b7 D6 V6 b6 hG d6
  clear HD HV HB HY hsl h
  go_wp2
  generalize ((((((((((((((((((w6.setCell ⟨G, 6, none⟩ (.int .u64 0)).setCell ⟨G, 7, none⟩ (.int .u32 0)).setCell ⟨G, 8, none⟩ (.int .u32 0)).setCell ⟨G, 9, none⟩ (.int .u16 0)).setCell ⟨G, 10, none⟩ (.int .u16 0)).setCell ⟨w.heap.size, 0, none⟩ (.int .i64 0)).setCell ⟨w.heap.size, 1, none⟩ (.int .u16 0)).setCell ⟨w.heap.size, 2, none⟩ (.int .u16 0)).setCell ⟨w.heap.size, 3, none⟩ (.int .u32 0)).setCell ⟨w.heap.size, 4, none⟩ (.int .u16 0)).setCell ⟨w.heap.size, 5, none⟩ (.slice none 0 0)).setCell ⟨w.heap.size, 6, none⟩ (.int .u64 0)).setCell ⟨w.heap.size, 7, none⟩ (.int .u32 0)).setCell ⟨w.heap.size, 8, none⟩ (.int .u32 0)).setCell ⟨w.heap.size, 9, none⟩ (.int .u16 0)).setCell ⟨w.heap.size, 10, none⟩ (.int .u16 0)).setCell ⟨w.heap.size, 11, none⟩ (.int .u32 0)).setCell ⟨w.heap.size, 12, none⟩ (.int .u16 0)) = w9 at *
  clear q0 q1 q2 q3 q4 q5 q6 q7 q8 q9 q10 q11 q12 z0 z1 z2 z3 z4 z5 z6 z7 z8 z9 z10 z11 z12
  have s0 : w9.cell? ⟨w.heap.size, 0, none⟩ = some (.int .i64 0) := D9.out.cell 0 (by decide)
  have s1 : w9.cell? ⟨w.heap.size, 1, none⟩ = some (.int .u16 0) := D9.out.cell 1 (by decide)
  have s2 : w9.cell? ⟨w.heap.size, 2, none⟩ = some (.int .u16 0) := D9.out.cell 2 (by decide)
  have s3 : w9.cell? ⟨w.heap.size, 3, none⟩ = some (.int .u32 0) := D9.out.cell 3 (by decide)
  have s4 : w9.cell? ⟨w.heap.size, 4, none⟩ = some (.int .u16 0) := D9.out.cell 4 (by decide)
  have s5 : w9.cell? ⟨w.heap.size, 5, none⟩ = some (.slice none 0 0) := D9.out.cell 5 (by decide)
  have s6 : w9.cell? ⟨w.heap.size, 6, none⟩ = some (.int .u64 0) := D9.out.cell 6 (by decide)
  have s7 : w9.cell? ⟨w.heap.size, 7, none⟩ = some (.int .u32 0) := D9.out.cell 7 (by decide)
  have s8 : w9.cell? ⟨w.heap.size, 8, none⟩ = some (.int .u32 0) := D9.out.cell 8 (by decide)
  have s9 : w9.cell? ⟨w.heap.size, 9, none⟩ = some (.int .u16 0) := D9.out.cell 9 (by decide)
  have s10 : w9.cell? ⟨w.heap.size, 10, none⟩ = some (.int .u16 0) := D9.out.cell 10 (by decide)
  have s11 : w9.cell? ⟨w.heap.size, 11, none⟩ = some (.int .u32 0) := D9.out.cell 11 (by decide)
  have s12 : w9.cell? ⟨w.heap.size, 12, none⟩ = some (.int .u16 0) := D9.out.cell 12 (by decide)
  refine bodyPost_ret (v := .tuple #[.agg #[.int .i64 0, .int .u16 0, .int .u16 0, .int .u32 0, .int .u16 0, .slice none 0 0, .int .u64 0, .int .u32 0, .int .u32 0, .int .u16 0, .int .u16 0, .int .u32 0, .int .u16 0], .int .i64 2]) ?_ rfl HA.out
  simp [results, Try.results12, go_sem, s0, s1, s2, s3, s4, s5, s6, s7, s8, s9, s10, s11, s12]

set_option maxRecDepth 100000 in
set_option maxHeartbeats 2000000 in
theorem rpt_rep_yes (a : Option Addr) (L c : Nat) (x : Nat → Nat) (w : World) (hx : BytesAt w a L x) (hc : L ≤ c) (hn : L ≤ 100000) (m : Nat) (h0 : opB x L = true) (h1 : opN x L = m + 1) (hk : x 0 = 2) (T l g u j : Nat) (q : Pk) (hq : q = (pRep T l g u j)) (hI : inP 2 m (fun i => x (1 + i)) = some q) (HT : ∀ W e W', RepTake W m (fun i => x (1 + i)) e W' → RepIs W T l g u j 0 e W') :
    Calls Try.prog 12 #[.slice a L c] w fun e w' => TkIs w L x e w' := by
  have V1 : Hid (PkAt (w.alloc (.cells #[.int .i64 0, .int .u16 0, .int .u16 0, .int .u32 0, .int .u16 0, .slice none 0 0, .int .u64 0, .int .u32 0, .int .u32 0, .int .u16 0, .int .u16 0, .int .u32 0, .int .u16 0] 31)) w.heap.size Pk.zero none 0) := PkAt.made w _ Pk.zero none 0
  have b1 : Hid (Below w.heap.size w (w.alloc (.cells #[.int .i64 0, .int .u16 0, .int .u16 0, .int .u32 0, .int .u16 0, .slice none 0 0, .int .u64 0, .int .u32 0, .int .u32 0, .int .u16 0, .int .u16 0, .int .u32 0, .int .u16 0] 31))) := (Below.refl _ _).alloc (Nat.le_refl _) _
  have HX : Hid (BytesAt w a L x) := hx
  clear hx
  go_enter Try.func12, Try.ntmps12
  go_wp2_with fail
  generalize (w.alloc (.cells #[.int .i64 0, .int .u16 0, .int .u16 0, .int .u32 0, .int .u16 0, .slice none 0 0, .int .u64 0, .int .u32 0, .int .u32 0, .int .u16 0, .int .u16 0, .int .u32 0, .int .u16 0] 31)) = w2 at *
  refine (ropen_any a L c x w2 (HX.out.grew b1.out) hc hn).mono ?_
  intro e w3 h
  rw [h0, h1] at h
  obtain ⟨r3, c3, rfl, k1, -, k3, k4, d3⟩ := h
  have V3 := V1.out.grew d3
  have b3 := b1.out.trans (d3.mono b1.out.size)
  clear V1 b1 d3
  obtain ⟨g3, rfl, -⟩ := k3 (by omega)
  have q := bytes_cell k4 0 (by omega)
  rw [Nat.add_zero] at q
  have lk := k4.lt 0 (by omega)
  obtain ⟨a5, hsl, B5⟩ := slice_left (some ⟨g3, 0, none⟩) (m + 1) c3 1 x w3 k4 (by omega) (by omega) k1
  rw [Nat.add_sub_cancel] at hsl B5
  have hsl : ∀ W, (Instr.slice 24 (.slice (some ⟨g3, 0, none⟩) (m + 1) c3) (some (.int .i64 1)) none none).run Try.prog W = .ok (.slice a5 m (c3 - 1)) W := hsl
  clear k3 k4
  rw [hk] at q lk
  have q : w3.cell? ⟨g3, 0, none⟩ = some (.int .u8 2) := q
  have a4 : Below w3.heap.size w3 (w3.alloc (.cells #[.int .i64 2, .int .u16 0, .int .u16 0, .int .u32 0, .int .u16 0, .slice none 0 0, .int .u64 0, .int .u32 0, .int .u32 0, .int .u16 0, .int .u16 0, .int .u32 0, .int .u16 0] 31)) := (Below.refl _ _).alloc (Nat.le_refl _) _
  have HV : Hid (PkAt (w3.alloc (.cells #[.int .i64 2, .int .u16 0, .int .u16 0, .int .u32 0, .int .u16 0, .slice none 0 0, .int .u64 0, .int .u32 0, .int .u32 0, .int .u16 0, .int .u16 0, .int .u32 0, .int .u16 0] 31)) w.heap.size Pk.zero none 0) := V3.grew a4
  have HB : Hid (Below w.heap.size w (w3.alloc (.cells #[.int .i64 2, .int .u16 0, .int .u16 0, .int .u32 0, .int .u16 0, .slice none 0 0, .int .u64 0, .int .u32 0, .int .u32 0, .int .u16 0, .int .u16 0, .int .u32 0, .int .u16 0] 31))) := b3.trans (a4.mono b3.size)
  have HY : Hid (BytesAt (w3.alloc (.cells #[.int .i64 2, .int .u16 0, .int .u16 0, .int .u32 0, .int .u16 0, .slice none 0 0, .int .u64 0, .int .u32 0, .int .u32 0, .int .u16 0, .int .u16 0, .int .u32 0, .int .u16 0] 31)) a5 m (fun i => x (1 + i))) := B5.grew a4
  have HD : Hid (PkAt (w3.alloc (.cells #[.int .i64 2, .int .u16 0, .int .u16 0, .int .u32 0, .int .u16 0, .slice none 0 0, .int .u64 0, .int .u32 0, .int .u32 0, .int .u16 0, .int .u16 0, .int .u32 0, .int .u16 0] 31)) w3.heap.size (pKind 2) none 0) := PkAt.made w3 31 (pKind 2) none 0
  have HG : Hid (w.heap.size < w3.heap.size) := V3.lt
  have HK : Hid (x 0 = 2) := hk
  have hc3 : Hid (m ≤ c3 - 1) := by show _ ≤ _; omega
  have i1 : (0 : Int) < (m : Int) + 1 := by omega
  have i2 : ((m : Int) + 1 == 0) = false := by simp; omega
  clear V3 b3 a4 B5 hk
  go_wp2_with fail
  generalize (w3.alloc (.cells #[.int .i64 2, .int .u16 0, .int .u16 0, .int .u32 0, .int .u16 0, .slice none 0 0, .int .u64 0, .int .u32 0, .int .u32 0, .int .u16 0, .int .u16 0, .int .u32 0, .int .u16 0] 31)) = w5 at *
  generalize w3.heap.size = G at *
  clear q
  refine (rtaker_any a5 m (c3 - 1) _ w5 HY.out hc3.out).mono ?_
  intro e w6 h
  obtain ⟨rfl, d6⟩ := HT _ _ _ h
  have hG := HG.out
  have D6 := HD.out.grew d6
  have V6 := HV.out.grew d6
  have b6 := HB.out.trans (d6.mono HB.out.size)
  have l5 := HB.out.size
  have g6 : w6.cell? ⟨G, 6, none⟩ = some (.int .u64 0) := D6.cell 6 (by decide)
  have g7 : w6.cell? ⟨G, 7, none⟩ = some (.int .u32 0) := D6.cell 7 (by decide)
  have g8 : w6.cell? ⟨G, 8, none⟩ = some (.int .u32 0) := D6.cell 8 (by decide)
  have g9 : w6.cell? ⟨G, 9, none⟩ = some (.int .u16 0) := D6.cell 9 (by decide)
  have g10 : w6.cell? ⟨G, 10, none⟩ = some (.int .u16 0) := D6.cell 10 (by decide)
  have y6 := D6.frz 6
  have y7 := D6.frz 7
  have y8 := D6.frz 8
  have y9 := D6.frz 9
  have y10 := D6.frz 10
  have D7 : PkAt (((((w6.setCell ⟨G, 6, none⟩ (.int .u64 (T : Int))).setCell ⟨G, 7, none⟩ (.int .u32 (l : Int))).setCell ⟨G, 8, none⟩ (.int .u32 (g : Int))).setCell ⟨G, 9, none⟩ (.int .u16 (u : Int))).setCell ⟨G, 10, none⟩ (.int .u16 (j : Int))) G (pRep T l g u j) none 0 := D6.run 6 [.int .u64 (T : Int), .int .u32 (l : Int), .int .u32 (g : Int), .int .u16 (u : Int), .int .u16 (j : Int)] (Nat.le_of_ble_eq_true rfl) fun j hj => match j, hj with
    | 0, _ => rfl
    | 1, _ => rfl
    | 2, _ => rfl
    | 3, _ => rfl
    | 4, _ => rfl
    | 5, _ => rfl
    | 6, _ => rfl
    | 7, _ => rfl
    | 8, _ => rfl
    | 9, _ => rfl
    | 10, _ => rfl
    | 11, _ => rfl
    | 12, _ => rfl
  have V7 : PkAt (((((w6.setCell ⟨G, 6, none⟩ (.int .u64 (T : Int))).setCell ⟨G, 7, none⟩ (.int .u32 (l : Int))).setCell ⟨G, 8, none⟩ (.int .u32 (g : Int))).setCell ⟨G, 9, none⟩ (.int .u16 (u : Int))).setCell ⟨G, 10, none⟩ (.int .u16 (j : Int))) w.heap.size Pk.zero none 0 := VAt.putsOther (by omega) [.int .u64 (T : Int), .int .u32 (l : Int), .int .u32 (g : Int), .int .u16 (u : Int), .int .u16 (j : Int)] 6 V6
  have b7 : Below w.heap.size w (((((w6.setCell ⟨G, 6, none⟩ (.int .u64 (T : Int))).setCell ⟨G, 7, none⟩ (.int .u32 (l : Int))).setCell ⟨G, 8, none⟩ (.int .u32 (g : Int))).setCell ⟨G, 9, none⟩ (.int .u16 (u : Int))).setCell ⟨G, 10, none⟩ (.int .u16 (j : Int))) := puts_below (Nat.le_of_lt hG) [.int .u64 (T : Int), .int .u32 (l : Int), .int .u32 (g : Int), .int .u16 (u : Int), .int .u16 (j : Int)] 6 b6
  have B7 : BytesAt (((((w6.setCell ⟨G, 6, none⟩ (.int .u64 (T : Int))).setCell ⟨G, 7, none⟩ (.int .u32 (l : Int))).setCell ⟨G, 8, none⟩ (.int .u32 (g : Int))).setCell ⟨G, 9, none⟩ (.int .u16 (u : Int))).setCell ⟨G, 10, none⟩ (.int .u16 (j : Int))) none (pRep T l g u j).n (pRep T l g u j).x := nil_bytes _ _
  have D9 : Hid (PkAt ((((((((((((((((((w6.setCell ⟨G, 6, none⟩ (.int .u64 (T : Int))).setCell ⟨G, 7, none⟩ (.int .u32 (l : Int))).setCell ⟨G, 8, none⟩ (.int .u32 (g : Int))).setCell ⟨G, 9, none⟩ (.int .u16 (u : Int))).setCell ⟨G, 10, none⟩ (.int .u16 (j : Int))).setCell ⟨w.heap.size, 0, none⟩ (.int .i64 2)).setCell ⟨w.heap.size, 1, none⟩ (.int .u16 0)).setCell ⟨w.heap.size, 2, none⟩ (.int .u16 0)).setCell ⟨w.heap.size, 3, none⟩ (.int .u32 0)).setCell ⟨w.heap.size, 4, none⟩ (.int .u16 0)).setCell ⟨w.heap.size, 5, none⟩ (.slice none 0 0)).setCell ⟨w.heap.size, 6, none⟩ (.int .u64 (T : Int))).setCell ⟨w.heap.size, 7, none⟩ (.int .u32 (l : Int))).setCell ⟨w.heap.size, 8, none⟩ (.int .u32 (g : Int))).setCell ⟨w.heap.size, 9, none⟩ (.int .u16 (u : Int))).setCell ⟨w.heap.size, 10, none⟩ (.int .u16 (j : Int))).setCell ⟨w.heap.size, 11, none⟩ (.int .u32 0)).setCell ⟨w.heap.size, 12, none⟩ (.int .u16 0)) w.heap.size (pRep T l g u j) none 0) := V7.write (pRep T l g u j) none 0
  have HA : Hid (TkIs w L x (.returned (.tuple #[.agg #[.int .i64 2, .int .u16 0, .int .u16 0, .int .u32 0, .int .u16 0, .slice none 0 0, .int .u64 (T : Int), .int .u32 (l : Int), .int .u32 (g : Int), .int .u16 (u : Int), .int .u16 (j : Int), .int .u32 0, .int .u16 0], .int .i64 0])) ((((((((((((((((((w6.setCell ⟨G, 6, none⟩ (.int .u64 (T : Int))).setCell ⟨G, 7, none⟩ (.int .u32 (l : Int))).setCell ⟨G, 8, none⟩ (.int .u32 (g : Int))).setCell ⟨G, 9, none⟩ (.int .u16 (u : Int))).setCell ⟨G, 10, none⟩ (.int .u16 (j : Int))).setCell ⟨w.heap.size, 0, none⟩ (.int .i64 2)).setCell ⟨w.heap.size, 1, none⟩ (.int .u16 0)).setCell ⟨w.heap.size, 2, none⟩ (.int .u16 0)).setCell ⟨w.heap.size, 3, none⟩ (.int .u32 0)).setCell ⟨w.heap.size, 4, none⟩ (.int .u16 0)).setCell ⟨w.heap.size, 5, none⟩ (.slice none 0 0)).setCell ⟨w.heap.size, 6, none⟩ (.int .u64 (T : Int))).setCell ⟨w.heap.size, 7, none⟩ (.int .u32 (l : Int))).setCell ⟨w.heap.size, 8, none⟩ (.int .u32 (g : Int))).setCell ⟨w.heap.size, 9, none⟩ (.int .u16 (u : Int))).setCell ⟨w.heap.size, 10, none⟩ (.int .u16 (j : Int))).setCell ⟨w.heap.size, 11, none⟩ (.int .u32 0)).setCell ⟨w.heap.size, 12, none⟩ (.int .u16 0))) := TkIs.yes h0 ((tk_in h1).trans (by rw [HK.out, hI, hq])) (Nat.le_refl _) (fun h => absurd h (Nat.lt_irrefl 0)) (BytesAt.puts [.int .i64 2, .int .u16 0, .int .u16 0, .int .u32 0, .int .u16 0, .slice none 0 0, .int .u64 (T : Int), .int .u32 (l : Int), .int .u32 (g : Int), .int .u16 (u : Int), .int .u16 (j : Int), .int .u32 0, .int .u16 0] 0 B7 V7.vat (Nat.le_refl 13) (Pk.noByte _ _ _)) (puts_below (Nat.le_refl _) [.int .i64 2, .int .u16 0, .int .u16 0, .int .u32 0, .int .u16 0, .slice none 0 0, .int .u64 (T : Int), .int .u32 (l : Int), .int .u32 (g : Int), .int .u16 (u : Int), .int .u16 (j : Int), .int .u32 0, .int .u16 0] 0 b7)
  have q0 : w6.cell? ⟨w.heap.size, 0, none⟩ = some (.int .i64 0) := V6.cell 0 (by decide)
  have q1 : w6.cell? ⟨w.heap.size, 1, none⟩ = some (.int .u16 0) := V6.cell 1 (by decide)
  have q2 : w6.cell? ⟨w.heap.size, 2, none⟩ = some (.int .u16 0) := V6.cell 2 (by decide)
  have q3 : w6.cell? ⟨w.heap.size, 3, none⟩ = some (.int .u32 0) := V6.cell 3 (by decide)
  have q4 : w6.cell? ⟨w.heap.size, 4, none⟩ = some (.int .u16 0) := V6.cell 4 (by decide)
  have q5 : w6.cell? ⟨w.heap.size, 5, none⟩ = some (.slice none 0 0) := V6.cell 5 (by decide)
  have q6 : w6.cell? ⟨w.heap.size, 6, none⟩ = some (.int .u64 0) := V6.cell 6 (by decide)
  have q7 : w6.cell? ⟨w.heap.size, 7, none⟩ = some (.int .u32 0) := V6.cell 7 (by decide)
  have q8 : w6.cell? ⟨w.heap.size, 8, none⟩ = some (.int .u32 0) := V6.cell 8 (by decide)
  have q9 : w6.cell? ⟨w.heap.size, 9, none⟩ = some (.int .u16 0) := V6.cell 9 (by decide)
  have q10 : w6.cell? ⟨w.heap.size, 10, none⟩ = some (.int .u16 0) := V6.cell 10 (by decide)
  have q11 : w6.cell? ⟨w.heap.size, 11, none⟩ = some (.int .u32 0) := V6.cell 11 (by decide)
  have q12 : w6.cell? ⟨w.heap.size, 12, none⟩ = some (.int .u16 0) := V6.cell 12 (by decide)
  have z0 := V6.frz 0
  have z1 := V6.frz 1
  have z2 := V6.frz 2
  have z3 := V6.frz 3
  have z4 := V6.frz 4
  have z5 := V6.frz 5
  have z6 := V6.frz 6
  have z7 := V6.frz 7
  have z8 := V6.frz 8
  have z9 := V6.frz 9
  have z10 := V6.frz 10
  have z11 := V6.frz 11
  have z12 := V6.frz 12
  have g0 : w6.cell? ⟨G, 0, none⟩ = some (.int .i64 2) := D6.cell 0 (by decide)
  have g1 : w6.cell? ⟨G, 1, none⟩ = some (.int .u16 0) := D6.cell 1 (by decide)
  have g2 : w6.cell? ⟨G, 2, none⟩ = some (.int .u16 0) := D6.cell 2 (by decide)
  have g3 : w6.cell? ⟨G, 3, none⟩ = some (.int .u32 0) := D6.cell 3 (by decide)
  have g4 : w6.cell? ⟨G, 4, none⟩ = some (.int .u16 0) := D6.cell 4 (by decide)
  have g5 : w6.cell? ⟨G, 5, none⟩ = some (.slice none 0 0) := D6.cell 5 (by decide)
  have g11 : w6.cell? ⟨G, 11, none⟩ = some (.int .u32 0) := D6.cell 11 (by decide)
  have g12 : w6.cell? ⟨G, 12, none⟩ = some (.int .u16 0) := D6.cell 12 (by decide)
  have nG : w.heap.size ≠ G := by omega
  have nG2 : G ≠ w.heap.size := by omega
  clear V7 b7 D7 B7 D6 V6 b6 hG d6
  clear HD HV HB HY hsl h
  go_wp2
  generalize ((((((((((((((((((w6.setCell ⟨G, 6, none⟩ (.int .u64 (T : Int))).setCell ⟨G, 7, none⟩ (.int .u32 (l : Int))).setCell ⟨G, 8, none⟩ (.int .u32 (g : Int))).setCell ⟨G, 9, none⟩ (.int .u16 (u : Int))).setCell ⟨G, 10, none⟩ (.int .u16 (j : Int))).setCell ⟨w.heap.size, 0, none⟩ (.int .i64 2)).setCell ⟨w.heap.size, 1, none⟩ (.int .u16 0)).setCell ⟨w.heap.size, 2, none⟩ (.int .u16 0)).setCell ⟨w.heap.size, 3, none⟩ (.int .u32 0)).setCell ⟨w.heap.size, 4, none⟩ (.int .u16 0)).setCell ⟨w.heap.size, 5, none⟩ (.slice none 0 0)).setCell ⟨w.heap.size, 6, none⟩ (.int .u64 (T : Int))).setCell ⟨w.heap.size, 7, none⟩ (.int .u32 (l : Int))).setCell ⟨w.heap.size, 8, none⟩ (.int .u32 (g : Int))).setCell ⟨w.heap.size, 9, none⟩ (.int .u16 (u : Int))).setCell ⟨w.heap.size, 10, none⟩ (.int .u16 (j : Int))).setCell ⟨w.heap.size, 11, none⟩ (.int .u32 0)).setCell ⟨w.heap.size, 12, none⟩ (.int .u16 0)) = w9 at *
  clear q0 q1 q2 q3 q4 q5 q6 q7 q8 q9 q10 q11 q12 z0 z1 z2 z3 z4 z5 z6 z7 z8 z9 z10 z11 z12
  have s0 : w9.cell? ⟨w.heap.size, 0, none⟩ = some (.int .i64 2) := D9.out.cell 0 (by decide)
  have s1 : w9.cell? ⟨w.heap.size, 1, none⟩ = some (.int .u16 0) := D9.out.cell 1 (by decide)
  have s2 : w9.cell? ⟨w.heap.size, 2, none⟩ = some (.int .u16 0) := D9.out.cell 2 (by decide)
  have s3 : w9.cell? ⟨w.heap.size, 3, none⟩ = some (.int .u32 0) := D9.out.cell 3 (by decide)
  have s4 : w9.cell? ⟨w.heap.size, 4, none⟩ = some (.int .u16 0) := D9.out.cell 4 (by decide)
  have s5 : w9.cell? ⟨w.heap.size, 5, none⟩ = some (.slice none 0 0) := D9.out.cell 5 (by decide)
  have s6 : w9.cell? ⟨w.heap.size, 6, none⟩ = some (.int .u64 (T : Int)) := D9.out.cell 6 (by decide)
  have s7 : w9.cell? ⟨w.heap.size, 7, none⟩ = some (.int .u32 (l : Int)) := D9.out.cell 7 (by decide)
  have s8 : w9.cell? ⟨w.heap.size, 8, none⟩ = some (.int .u32 (g : Int)) := D9.out.cell 8 (by decide)
  have s9 : w9.cell? ⟨w.heap.size, 9, none⟩ = some (.int .u16 (u : Int)) := D9.out.cell 9 (by decide)
  have s10 : w9.cell? ⟨w.heap.size, 10, none⟩ = some (.int .u16 (j : Int)) := D9.out.cell 10 (by decide)
  have s11 : w9.cell? ⟨w.heap.size, 11, none⟩ = some (.int .u32 0) := D9.out.cell 11 (by decide)
  have s12 : w9.cell? ⟨w.heap.size, 12, none⟩ = some (.int .u16 0) := D9.out.cell 12 (by decide)
  refine bodyPost_ret (v := .tuple #[.agg #[.int .i64 2, .int .u16 0, .int .u16 0, .int .u32 0, .int .u16 0, .slice none 0 0, .int .u64 (T : Int), .int .u32 (l : Int), .int .u32 (g : Int), .int .u16 (u : Int), .int .u16 (j : Int), .int .u32 0, .int .u16 0], .int .i64 0]) ?_ rfl HA.out
  simp [results, Try.results12, go_sem, s0, s1, s2, s3, s4, s5, s6, s7, s8, s9, s10, s11, s12]

set_option maxRecDepth 100000 in
set_option maxHeartbeats 2000000 in
theorem rpt_data_no (a : Option Addr) (L c : Nat) (x : Nat → Nat) (w : World) (hx : BytesAt w a L x) (hc : L ≤ c) (hn : L ≤ 100000) (m : Nat) (h0 : opB x L = true) (h1 : opN x L = m + 1) (hk : x 0 = 1) (hm : ¬ (11 ≤ m ∧ m ≤ 74)) :
    Calls Try.prog 12 #[.slice a L c] w fun e w' => TkIs w L x e w' := by
  have V1 : Hid (PkAt (w.alloc (.cells #[.int .i64 0, .int .u16 0, .int .u16 0, .int .u32 0, .int .u16 0, .slice none 0 0, .int .u64 0, .int .u32 0, .int .u32 0, .int .u16 0, .int .u16 0, .int .u32 0, .int .u16 0] 31)) w.heap.size Pk.zero none 0) := PkAt.made w _ Pk.zero none 0
  have b1 : Hid (Below w.heap.size w (w.alloc (.cells #[.int .i64 0, .int .u16 0, .int .u16 0, .int .u32 0, .int .u16 0, .slice none 0 0, .int .u64 0, .int .u32 0, .int .u32 0, .int .u16 0, .int .u16 0, .int .u32 0, .int .u16 0] 31))) := (Below.refl _ _).alloc (Nat.le_refl _) _
  have HX : Hid (BytesAt w a L x) := hx
  clear hx
  go_enter Try.func12, Try.ntmps12
  go_wp2_with fail
  generalize (w.alloc (.cells #[.int .i64 0, .int .u16 0, .int .u16 0, .int .u32 0, .int .u16 0, .slice none 0 0, .int .u64 0, .int .u32 0, .int .u32 0, .int .u16 0, .int .u16 0, .int .u32 0, .int .u16 0] 31)) = w2 at *
  refine (ropen_any a L c x w2 (HX.out.grew b1.out) hc hn).mono ?_
  intro e w3 h
  rw [h0, h1] at h
  obtain ⟨r3, c3, rfl, k1, -, k3, k4, d3⟩ := h
  have V3 := V1.out.grew d3
  have b3 := b1.out.trans (d3.mono b1.out.size)
  clear V1 b1 d3
  obtain ⟨g3, rfl, -⟩ := k3 (by omega)
  have q := bytes_cell k4 0 (by omega)
  rw [Nat.add_zero] at q
  have lk := k4.lt 0 (by omega)
  obtain ⟨a5, hsl, B5⟩ := slice_left (some ⟨g3, 0, none⟩) (m + 1) c3 1 x w3 k4 (by omega) (by omega) k1
  rw [Nat.add_sub_cancel] at hsl B5
  have hsl : ∀ W, (Instr.slice 24 (.slice (some ⟨g3, 0, none⟩) (m + 1) c3) (some (.int .i64 1)) none none).run Try.prog W = .ok (.slice a5 m (c3 - 1)) W := hsl
  clear k3 k4
  rw [hk] at q lk
  have q : w3.cell? ⟨g3, 0, none⟩ = some (.int .u8 1) := q
  have a4 : Below w3.heap.size w3 (w3.alloc (.cells #[.int .i64 1, .int .u16 0, .int .u16 0, .int .u32 0, .int .u16 0, .slice none 0 0, .int .u64 0, .int .u32 0, .int .u32 0, .int .u16 0, .int .u16 0, .int .u32 0, .int .u16 0] 31)) := (Below.refl _ _).alloc (Nat.le_refl _) _
  have HV : Hid (PkAt (w3.alloc (.cells #[.int .i64 1, .int .u16 0, .int .u16 0, .int .u32 0, .int .u16 0, .slice none 0 0, .int .u64 0, .int .u32 0, .int .u32 0, .int .u16 0, .int .u16 0, .int .u32 0, .int .u16 0] 31)) w.heap.size Pk.zero none 0) := V3.grew a4
  have HB : Hid (Below w.heap.size w (w3.alloc (.cells #[.int .i64 1, .int .u16 0, .int .u16 0, .int .u32 0, .int .u16 0, .slice none 0 0, .int .u64 0, .int .u32 0, .int .u32 0, .int .u16 0, .int .u16 0, .int .u32 0, .int .u16 0] 31))) := b3.trans (a4.mono b3.size)
  have HY : Hid (BytesAt (w3.alloc (.cells #[.int .i64 1, .int .u16 0, .int .u16 0, .int .u32 0, .int .u16 0, .slice none 0 0, .int .u64 0, .int .u32 0, .int .u32 0, .int .u16 0, .int .u16 0, .int .u32 0, .int .u16 0] 31)) a5 m (fun i => x (1 + i))) := B5.grew a4
  have HD : Hid (PkAt (w3.alloc (.cells #[.int .i64 1, .int .u16 0, .int .u16 0, .int .u32 0, .int .u16 0, .slice none 0 0, .int .u64 0, .int .u32 0, .int .u32 0, .int .u16 0, .int .u16 0, .int .u32 0, .int .u16 0] 31)) w3.heap.size (pKind 1) none 0) := PkAt.made w3 31 (pKind 1) none 0
  have HG : Hid (w.heap.size < w3.heap.size) := V3.lt
  have HK : Hid (x 0 = 1) := hk
  have hc3 : Hid (m ≤ c3 - 1) := by show _ ≤ _; omega
  have i1 : (0 : Int) < (m : Int) + 1 := by omega
  have i2 : ((m : Int) + 1 == 0) = false := by simp; omega
  clear V3 b3 a4 B5 hk
  go_wp2_with fail
  generalize (w3.alloc (.cells #[.int .i64 1, .int .u16 0, .int .u16 0, .int .u32 0, .int .u16 0, .slice none 0 0, .int .u64 0, .int .u32 0, .int .u32 0, .int .u16 0, .int .u16 0, .int .u32 0, .int .u16 0] 31)) = w5 at *
  generalize w3.heap.size = G at *
  clear q
  refine (rtake_any a5 m (c3 - 1) _ w5 HY.out hc3.out).mono ?_
  intro e w6 h
  obtain ⟨r', c', rfl, kk, -, -, d6⟩ := h.none hm
  have hG := HG.out
  have D6 := HD.out.grew d6
  have V6 := HV.out.grew d6
  have b6 := HB.out.trans (d6.mono HB.out.size)
  have l5 := HB.out.size
  have g1 : w6.cell? ⟨G, 1, none⟩ = some (.int .u16 0) := D6.cell 1 (by decide)
  have g2 : w6.cell? ⟨G, 2, none⟩ = some (.int .u16 0) := D6.cell 2 (by decide)
  have g3 : w6.cell? ⟨G, 3, none⟩ = some (.int .u32 0) := D6.cell 3 (by decide)
  have g4 : w6.cell? ⟨G, 4, none⟩ = some (.int .u16 0) := D6.cell 4 (by decide)
  have g5 : w6.cell? ⟨G, 5, none⟩ = some (.slice none 0 0) := D6.cell 5 (by decide)
  have y1 := D6.frz 1
  have y2 := D6.frz 2
  have y3 := D6.frz 3
  have y4 := D6.frz 4
  have y5 := D6.frz 5
  have V7 : PkAt (((((w6.setCell ⟨G, 1, none⟩ (.int .u16 0)).setCell ⟨G, 2, none⟩ (.int .u16 0)).setCell ⟨G, 3, none⟩ (.int .u32 0)).setCell ⟨G, 4, none⟩ (.int .u16 0)).setCell ⟨G, 5, none⟩ (.slice r' 0 c')) w.heap.size Pk.zero none 0 := VAt.putsOther (by omega) [.int .u16 0, .int .u16 0, .int .u32 0, .int .u16 0, .slice r' 0 c'] 1 V6
  have b7 : Below w.heap.size w (((((w6.setCell ⟨G, 1, none⟩ (.int .u16 0)).setCell ⟨G, 2, none⟩ (.int .u16 0)).setCell ⟨G, 3, none⟩ (.int .u32 0)).setCell ⟨G, 4, none⟩ (.int .u16 0)).setCell ⟨G, 5, none⟩ (.slice r' 0 c')) := puts_below (Nat.le_of_lt hG) [.int .u16 0, .int .u16 0, .int .u32 0, .int .u16 0, .slice r' 0 c'] 1 b6
  have D9 : Hid (PkAt ((((((((((((((((((w6.setCell ⟨G, 1, none⟩ (.int .u16 0)).setCell ⟨G, 2, none⟩ (.int .u16 0)).setCell ⟨G, 3, none⟩ (.int .u32 0)).setCell ⟨G, 4, none⟩ (.int .u16 0)).setCell ⟨G, 5, none⟩ (.slice r' 0 c')).setCell ⟨w.heap.size, 0, none⟩ (.int .i64 0)).setCell ⟨w.heap.size, 1, none⟩ (.int .u16 0)).setCell ⟨w.heap.size, 2, none⟩ (.int .u16 0)).setCell ⟨w.heap.size, 3, none⟩ (.int .u32 0)).setCell ⟨w.heap.size, 4, none⟩ (.int .u16 0)).setCell ⟨w.heap.size, 5, none⟩ (.slice none 0 0)).setCell ⟨w.heap.size, 6, none⟩ (.int .u64 0)).setCell ⟨w.heap.size, 7, none⟩ (.int .u32 0)).setCell ⟨w.heap.size, 8, none⟩ (.int .u32 0)).setCell ⟨w.heap.size, 9, none⟩ (.int .u16 0)).setCell ⟨w.heap.size, 10, none⟩ (.int .u16 0)).setCell ⟨w.heap.size, 11, none⟩ (.int .u32 0)).setCell ⟨w.heap.size, 12, none⟩ (.int .u16 0)) w.heap.size Pk.zero none 0) := V7.write Pk.zero none 0
  have HA : Hid (TkIs w L x (.returned (.tuple #[.agg #[.int .i64 0, .int .u16 0, .int .u16 0, .int .u32 0, .int .u16 0, .slice none 0 0, .int .u64 0, .int .u32 0, .int .u32 0, .int .u16 0, .int .u16 0, .int .u32 0, .int .u16 0], .int .i64 2])) ((((((((((((((((((w6.setCell ⟨G, 1, none⟩ (.int .u16 0)).setCell ⟨G, 2, none⟩ (.int .u16 0)).setCell ⟨G, 3, none⟩ (.int .u32 0)).setCell ⟨G, 4, none⟩ (.int .u16 0)).setCell ⟨G, 5, none⟩ (.slice r' 0 c')).setCell ⟨w.heap.size, 0, none⟩ (.int .i64 0)).setCell ⟨w.heap.size, 1, none⟩ (.int .u16 0)).setCell ⟨w.heap.size, 2, none⟩ (.int .u16 0)).setCell ⟨w.heap.size, 3, none⟩ (.int .u32 0)).setCell ⟨w.heap.size, 4, none⟩ (.int .u16 0)).setCell ⟨w.heap.size, 5, none⟩ (.slice none 0 0)).setCell ⟨w.heap.size, 6, none⟩ (.int .u64 0)).setCell ⟨w.heap.size, 7, none⟩ (.int .u32 0)).setCell ⟨w.heap.size, 8, none⟩ (.int .u32 0)).setCell ⟨w.heap.size, 9, none⟩ (.int .u16 0)).setCell ⟨w.heap.size, 10, none⟩ (.int .u16 0)).setCell ⟨w.heap.size, 11, none⟩ (.int .u32 0)).setCell ⟨w.heap.size, 12, none⟩ (.int .u16 0))) := TkIs.form h0 ((tk_in h1).trans (by rw [HK.out]; exact inP_data_no (tk_no hm))) (puts_below (Nat.le_refl _) [.int .i64 0, .int .u16 0, .int .u16 0, .int .u32 0, .int .u16 0, .slice none 0 0, .int .u64 0, .int .u32 0, .int .u32 0, .int .u16 0, .int .u16 0, .int .u32 0, .int .u16 0] 0 b7)
  have q0 : w6.cell? ⟨w.heap.size, 0, none⟩ = some (.int .i64 0) := V6.cell 0 (by decide)
  have q1 : w6.cell? ⟨w.heap.size, 1, none⟩ = some (.int .u16 0) := V6.cell 1 (by decide)
  have q2 : w6.cell? ⟨w.heap.size, 2, none⟩ = some (.int .u16 0) := V6.cell 2 (by decide)
  have q3 : w6.cell? ⟨w.heap.size, 3, none⟩ = some (.int .u32 0) := V6.cell 3 (by decide)
  have q4 : w6.cell? ⟨w.heap.size, 4, none⟩ = some (.int .u16 0) := V6.cell 4 (by decide)
  have q5 : w6.cell? ⟨w.heap.size, 5, none⟩ = some (.slice none 0 0) := V6.cell 5 (by decide)
  have q6 : w6.cell? ⟨w.heap.size, 6, none⟩ = some (.int .u64 0) := V6.cell 6 (by decide)
  have q7 : w6.cell? ⟨w.heap.size, 7, none⟩ = some (.int .u32 0) := V6.cell 7 (by decide)
  have q8 : w6.cell? ⟨w.heap.size, 8, none⟩ = some (.int .u32 0) := V6.cell 8 (by decide)
  have q9 : w6.cell? ⟨w.heap.size, 9, none⟩ = some (.int .u16 0) := V6.cell 9 (by decide)
  have q10 : w6.cell? ⟨w.heap.size, 10, none⟩ = some (.int .u16 0) := V6.cell 10 (by decide)
  have q11 : w6.cell? ⟨w.heap.size, 11, none⟩ = some (.int .u32 0) := V6.cell 11 (by decide)
  have q12 : w6.cell? ⟨w.heap.size, 12, none⟩ = some (.int .u16 0) := V6.cell 12 (by decide)
  have z0 := V6.frz 0
  have z1 := V6.frz 1
  have z2 := V6.frz 2
  have z3 := V6.frz 3
  have z4 := V6.frz 4
  have z5 := V6.frz 5
  have z6 := V6.frz 6
  have z7 := V6.frz 7
  have z8 := V6.frz 8
  have z9 := V6.frz 9
  have z10 := V6.frz 10
  have z11 := V6.frz 11
  have z12 := V6.frz 12
  have nG : w.heap.size ≠ G := by omega
  have nG2 : G ≠ w.heap.size := by omega
  clear V7 b7 D6 V6 b6 hG d6
  clear HD HV HB HY hsl h
  go_wp2
  generalize ((((((((((((((((((w6.setCell ⟨G, 1, none⟩ (.int .u16 0)).setCell ⟨G, 2, none⟩ (.int .u16 0)).setCell ⟨G, 3, none⟩ (.int .u32 0)).setCell ⟨G, 4, none⟩ (.int .u16 0)).setCell ⟨G, 5, none⟩ (.slice r' 0 c')).setCell ⟨w.heap.size, 0, none⟩ (.int .i64 0)).setCell ⟨w.heap.size, 1, none⟩ (.int .u16 0)).setCell ⟨w.heap.size, 2, none⟩ (.int .u16 0)).setCell ⟨w.heap.size, 3, none⟩ (.int .u32 0)).setCell ⟨w.heap.size, 4, none⟩ (.int .u16 0)).setCell ⟨w.heap.size, 5, none⟩ (.slice none 0 0)).setCell ⟨w.heap.size, 6, none⟩ (.int .u64 0)).setCell ⟨w.heap.size, 7, none⟩ (.int .u32 0)).setCell ⟨w.heap.size, 8, none⟩ (.int .u32 0)).setCell ⟨w.heap.size, 9, none⟩ (.int .u16 0)).setCell ⟨w.heap.size, 10, none⟩ (.int .u16 0)).setCell ⟨w.heap.size, 11, none⟩ (.int .u32 0)).setCell ⟨w.heap.size, 12, none⟩ (.int .u16 0)) = w9 at *
  clear q0 q1 q2 q3 q4 q5 q6 q7 q8 q9 q10 q11 q12 z0 z1 z2 z3 z4 z5 z6 z7 z8 z9 z10 z11 z12
  have s0 : w9.cell? ⟨w.heap.size, 0, none⟩ = some (.int .i64 0) := D9.out.cell 0 (by decide)
  have s1 : w9.cell? ⟨w.heap.size, 1, none⟩ = some (.int .u16 0) := D9.out.cell 1 (by decide)
  have s2 : w9.cell? ⟨w.heap.size, 2, none⟩ = some (.int .u16 0) := D9.out.cell 2 (by decide)
  have s3 : w9.cell? ⟨w.heap.size, 3, none⟩ = some (.int .u32 0) := D9.out.cell 3 (by decide)
  have s4 : w9.cell? ⟨w.heap.size, 4, none⟩ = some (.int .u16 0) := D9.out.cell 4 (by decide)
  have s5 : w9.cell? ⟨w.heap.size, 5, none⟩ = some (.slice none 0 0) := D9.out.cell 5 (by decide)
  have s6 : w9.cell? ⟨w.heap.size, 6, none⟩ = some (.int .u64 0) := D9.out.cell 6 (by decide)
  have s7 : w9.cell? ⟨w.heap.size, 7, none⟩ = some (.int .u32 0) := D9.out.cell 7 (by decide)
  have s8 : w9.cell? ⟨w.heap.size, 8, none⟩ = some (.int .u32 0) := D9.out.cell 8 (by decide)
  have s9 : w9.cell? ⟨w.heap.size, 9, none⟩ = some (.int .u16 0) := D9.out.cell 9 (by decide)
  have s10 : w9.cell? ⟨w.heap.size, 10, none⟩ = some (.int .u16 0) := D9.out.cell 10 (by decide)
  have s11 : w9.cell? ⟨w.heap.size, 11, none⟩ = some (.int .u32 0) := D9.out.cell 11 (by decide)
  have s12 : w9.cell? ⟨w.heap.size, 12, none⟩ = some (.int .u16 0) := D9.out.cell 12 (by decide)
  refine bodyPost_ret (v := .tuple #[.agg #[.int .i64 0, .int .u16 0, .int .u16 0, .int .u32 0, .int .u16 0, .slice none 0 0, .int .u64 0, .int .u32 0, .int .u32 0, .int .u16 0, .int .u16 0, .int .u32 0, .int .u16 0], .int .i64 2]) ?_ rfl HA.out
  simp [results, Try.results12, go_sem, s0, s1, s2, s3, s4, s5, s6, s7, s8, s9, s10, s11, s12]

set_option maxRecDepth 100000 in
set_option maxHeartbeats 2000000 in
theorem rpt_data_yes (a : Option Addr) (L c : Nat) (x : Nat → Nat) (w : World) (hx : BytesAt w a L x) (hc : L ≤ c) (hn : L ≤ 100000) (m : Nat) (h0 : opB x L = true) (h1 : opN x L = m + 1) (hk : x 0 = 1) (s t f y n : Nat) (z : Nat → Nat) (q : Pk) (hq : q = (pData s t f y n z)) (hI : inP 1 m (fun i => x (1 + i)) = some q) (HT : ∀ W e W', TakeIs W m (fun i => x (1 + i)) e W' → DatIs W s t f y n z 0 e W') :
    Calls Try.prog 12 #[.slice a L c] w fun e w' => TkIs w L x e w' := by
  have V1 : Hid (PkAt (w.alloc (.cells #[.int .i64 0, .int .u16 0, .int .u16 0, .int .u32 0, .int .u16 0, .slice none 0 0, .int .u64 0, .int .u32 0, .int .u32 0, .int .u16 0, .int .u16 0, .int .u32 0, .int .u16 0] 31)) w.heap.size Pk.zero none 0) := PkAt.made w _ Pk.zero none 0
  have b1 : Hid (Below w.heap.size w (w.alloc (.cells #[.int .i64 0, .int .u16 0, .int .u16 0, .int .u32 0, .int .u16 0, .slice none 0 0, .int .u64 0, .int .u32 0, .int .u32 0, .int .u16 0, .int .u16 0, .int .u32 0, .int .u16 0] 31))) := (Below.refl _ _).alloc (Nat.le_refl _) _
  have HX : Hid (BytesAt w a L x) := hx
  clear hx
  go_enter Try.func12, Try.ntmps12
  go_wp2_with fail
  generalize (w.alloc (.cells #[.int .i64 0, .int .u16 0, .int .u16 0, .int .u32 0, .int .u16 0, .slice none 0 0, .int .u64 0, .int .u32 0, .int .u32 0, .int .u16 0, .int .u16 0, .int .u32 0, .int .u16 0] 31)) = w2 at *
  refine (ropen_any a L c x w2 (HX.out.grew b1.out) hc hn).mono ?_
  intro e w3 h
  rw [h0, h1] at h
  obtain ⟨r3, c3, rfl, k1, -, k3, k4, d3⟩ := h
  have V3 := V1.out.grew d3
  have b3 := b1.out.trans (d3.mono b1.out.size)
  clear V1 b1 d3
  obtain ⟨g3, rfl, -⟩ := k3 (by omega)
  have q := bytes_cell k4 0 (by omega)
  rw [Nat.add_zero] at q
  have lk := k4.lt 0 (by omega)
  obtain ⟨a5, hsl, B5⟩ := slice_left (some ⟨g3, 0, none⟩) (m + 1) c3 1 x w3 k4 (by omega) (by omega) k1
  rw [Nat.add_sub_cancel] at hsl B5
  have hsl : ∀ W, (Instr.slice 24 (.slice (some ⟨g3, 0, none⟩) (m + 1) c3) (some (.int .i64 1)) none none).run Try.prog W = .ok (.slice a5 m (c3 - 1)) W := hsl
  clear k3 k4
  rw [hk] at q lk
  have q : w3.cell? ⟨g3, 0, none⟩ = some (.int .u8 1) := q
  have a4 : Below w3.heap.size w3 (w3.alloc (.cells #[.int .i64 1, .int .u16 0, .int .u16 0, .int .u32 0, .int .u16 0, .slice none 0 0, .int .u64 0, .int .u32 0, .int .u32 0, .int .u16 0, .int .u16 0, .int .u32 0, .int .u16 0] 31)) := (Below.refl _ _).alloc (Nat.le_refl _) _
  have HV : Hid (PkAt (w3.alloc (.cells #[.int .i64 1, .int .u16 0, .int .u16 0, .int .u32 0, .int .u16 0, .slice none 0 0, .int .u64 0, .int .u32 0, .int .u32 0, .int .u16 0, .int .u16 0, .int .u32 0, .int .u16 0] 31)) w.heap.size Pk.zero none 0) := V3.grew a4
  have HB : Hid (Below w.heap.size w (w3.alloc (.cells #[.int .i64 1, .int .u16 0, .int .u16 0, .int .u32 0, .int .u16 0, .slice none 0 0, .int .u64 0, .int .u32 0, .int .u32 0, .int .u16 0, .int .u16 0, .int .u32 0, .int .u16 0] 31))) := b3.trans (a4.mono b3.size)
  have HY : Hid (BytesAt (w3.alloc (.cells #[.int .i64 1, .int .u16 0, .int .u16 0, .int .u32 0, .int .u16 0, .slice none 0 0, .int .u64 0, .int .u32 0, .int .u32 0, .int .u16 0, .int .u16 0, .int .u32 0, .int .u16 0] 31)) a5 m (fun i => x (1 + i))) := B5.grew a4
  have HD : Hid (PkAt (w3.alloc (.cells #[.int .i64 1, .int .u16 0, .int .u16 0, .int .u32 0, .int .u16 0, .slice none 0 0, .int .u64 0, .int .u32 0, .int .u32 0, .int .u16 0, .int .u16 0, .int .u32 0, .int .u16 0] 31)) w3.heap.size (pKind 1) none 0) := PkAt.made w3 31 (pKind 1) none 0
  have HG : Hid (w.heap.size < w3.heap.size) := V3.lt
  have HK : Hid (x 0 = 1) := hk
  have hc3 : Hid (m ≤ c3 - 1) := by show _ ≤ _; omega
  have i1 : (0 : Int) < (m : Int) + 1 := by omega
  have i2 : ((m : Int) + 1 == 0) = false := by simp; omega
  clear V3 b3 a4 B5 hk
  go_wp2_with fail
  generalize (w3.alloc (.cells #[.int .i64 1, .int .u16 0, .int .u16 0, .int .u32 0, .int .u16 0, .slice none 0 0, .int .u64 0, .int .u32 0, .int .u32 0, .int .u16 0, .int .u16 0, .int .u32 0, .int .u16 0] 31)) = w5 at *
  generalize w3.heap.size = G at *
  clear q
  refine (rtake_any a5 m (c3 - 1) _ w5 HY.out hc3.out).mono ?_
  intro e w6 h
  obtain ⟨r', c', rfl, k1', k2, k3, d6⟩ := HT _ _ _ h
  have hG := HG.out
  have D6 := HD.out.grew d6
  have V6 := HV.out.grew d6
  have b6 := HB.out.trans (d6.mono HB.out.size)
  have l5 := HB.out.size
  have g1 : w6.cell? ⟨G, 1, none⟩ = some (.int .u16 0) := D6.cell 1 (by decide)
  have g2 : w6.cell? ⟨G, 2, none⟩ = some (.int .u16 0) := D6.cell 2 (by decide)
  have g3 : w6.cell? ⟨G, 3, none⟩ = some (.int .u32 0) := D6.cell 3 (by decide)
  have g4 : w6.cell? ⟨G, 4, none⟩ = some (.int .u16 0) := D6.cell 4 (by decide)
  have g5 : w6.cell? ⟨G, 5, none⟩ = some (.slice none 0 0) := D6.cell 5 (by decide)
  have y1 := D6.frz 1
  have y2 := D6.frz 2
  have y3 := D6.frz 3
  have y4 := D6.frz 4
  have y5 := D6.frz 5
  have D7 : PkAt (((((w6.setCell ⟨G, 1, none⟩ (.int .u16 (s : Int))).setCell ⟨G, 2, none⟩ (.int .u16 (t : Int))).setCell ⟨G, 3, none⟩ (.int .u32 (f : Int))).setCell ⟨G, 4, none⟩ (.int .u16 (y : Int))).setCell ⟨G, 5, none⟩ (.slice r' n c')) G (pData s t f y n z) r' c' := D6.run 1 [.int .u16 (s : Int), .int .u16 (t : Int), .int .u32 (f : Int), .int .u16 (y : Int), .slice r' n c'] (Nat.le_of_ble_eq_true rfl) fun j hj => match j, hj with
    | 0, _ => rfl
    | 1, _ => rfl
    | 2, _ => rfl
    | 3, _ => rfl
    | 4, _ => rfl
    | 5, _ => rfl
    | 6, _ => rfl
    | 7, _ => rfl
    | 8, _ => rfl
    | 9, _ => rfl
    | 10, _ => rfl
    | 11, _ => rfl
    | 12, _ => rfl
  have V7 : PkAt (((((w6.setCell ⟨G, 1, none⟩ (.int .u16 (s : Int))).setCell ⟨G, 2, none⟩ (.int .u16 (t : Int))).setCell ⟨G, 3, none⟩ (.int .u32 (f : Int))).setCell ⟨G, 4, none⟩ (.int .u16 (y : Int))).setCell ⟨G, 5, none⟩ (.slice r' n c')) w.heap.size Pk.zero none 0 := VAt.putsOther (by omega) [.int .u16 (s : Int), .int .u16 (t : Int), .int .u32 (f : Int), .int .u16 (y : Int), .slice r' n c'] 1 V6
  have b7 : Below w.heap.size w (((((w6.setCell ⟨G, 1, none⟩ (.int .u16 (s : Int))).setCell ⟨G, 2, none⟩ (.int .u16 (t : Int))).setCell ⟨G, 3, none⟩ (.int .u32 (f : Int))).setCell ⟨G, 4, none⟩ (.int .u16 (y : Int))).setCell ⟨G, 5, none⟩ (.slice r' n c')) := puts_below (Nat.le_of_lt hG) [.int .u16 (s : Int), .int .u16 (t : Int), .int .u32 (f : Int), .int .u16 (y : Int), .slice r' n c'] 1 b6
  have B7 : BytesAt (((((w6.setCell ⟨G, 1, none⟩ (.int .u16 (s : Int))).setCell ⟨G, 2, none⟩ (.int .u16 (t : Int))).setCell ⟨G, 3, none⟩ (.int .u32 (f : Int))).setCell ⟨G, 4, none⟩ (.int .u16 (y : Int))).setCell ⟨G, 5, none⟩ (.slice r' n c')) r' (pData s t f y n z).n (pData s t f y n z).x := BytesAt.puts [.int .u16 (s : Int), .int .u16 (t : Int), .int .u32 (f : Int), .int .u16 (y : Int), .slice r' n c'] 1 k3 D6.vat (Nat.le_of_ble_eq_true rfl) (Pk.noByte _ _ _)
  have D9 : Hid (PkAt ((((((((((((((((((w6.setCell ⟨G, 1, none⟩ (.int .u16 (s : Int))).setCell ⟨G, 2, none⟩ (.int .u16 (t : Int))).setCell ⟨G, 3, none⟩ (.int .u32 (f : Int))).setCell ⟨G, 4, none⟩ (.int .u16 (y : Int))).setCell ⟨G, 5, none⟩ (.slice r' n c')).setCell ⟨w.heap.size, 0, none⟩ (.int .i64 1)).setCell ⟨w.heap.size, 1, none⟩ (.int .u16 (s : Int))).setCell ⟨w.heap.size, 2, none⟩ (.int .u16 (t : Int))).setCell ⟨w.heap.size, 3, none⟩ (.int .u32 (f : Int))).setCell ⟨w.heap.size, 4, none⟩ (.int .u16 (y : Int))).setCell ⟨w.heap.size, 5, none⟩ (.slice r' n c')).setCell ⟨w.heap.size, 6, none⟩ (.int .u64 0)).setCell ⟨w.heap.size, 7, none⟩ (.int .u32 0)).setCell ⟨w.heap.size, 8, none⟩ (.int .u32 0)).setCell ⟨w.heap.size, 9, none⟩ (.int .u16 0)).setCell ⟨w.heap.size, 10, none⟩ (.int .u16 0)).setCell ⟨w.heap.size, 11, none⟩ (.int .u32 0)).setCell ⟨w.heap.size, 12, none⟩ (.int .u16 0)) w.heap.size (pData s t f y n z) r' c') := V7.write (pData s t f y n z) r' c'
  have HA : Hid (TkIs w L x (.returned (.tuple #[.agg #[.int .i64 1, .int .u16 (s : Int), .int .u16 (t : Int), .int .u32 (f : Int), .int .u16 (y : Int), .slice r' n c', .int .u64 0, .int .u32 0, .int .u32 0, .int .u16 0, .int .u16 0, .int .u32 0, .int .u16 0], .int .i64 0])) ((((((((((((((((((w6.setCell ⟨G, 1, none⟩ (.int .u16 (s : Int))).setCell ⟨G, 2, none⟩ (.int .u16 (t : Int))).setCell ⟨G, 3, none⟩ (.int .u32 (f : Int))).setCell ⟨G, 4, none⟩ (.int .u16 (y : Int))).setCell ⟨G, 5, none⟩ (.slice r' n c')).setCell ⟨w.heap.size, 0, none⟩ (.int .i64 1)).setCell ⟨w.heap.size, 1, none⟩ (.int .u16 (s : Int))).setCell ⟨w.heap.size, 2, none⟩ (.int .u16 (t : Int))).setCell ⟨w.heap.size, 3, none⟩ (.int .u32 (f : Int))).setCell ⟨w.heap.size, 4, none⟩ (.int .u16 (y : Int))).setCell ⟨w.heap.size, 5, none⟩ (.slice r' n c')).setCell ⟨w.heap.size, 6, none⟩ (.int .u64 0)).setCell ⟨w.heap.size, 7, none⟩ (.int .u32 0)).setCell ⟨w.heap.size, 8, none⟩ (.int .u32 0)).setCell ⟨w.heap.size, 9, none⟩ (.int .u16 0)).setCell ⟨w.heap.size, 10, none⟩ (.int .u16 0)).setCell ⟨w.heap.size, 11, none⟩ (.int .u32 0)).setCell ⟨w.heap.size, 12, none⟩ (.int .u16 0))) := TkIs.yes h0 ((tk_in h1).trans (by rw [HK.out, hI, hq])) k1' (fun h => (k2 h).imp fun g e => ⟨e.1, Nat.le_trans l5 e.2⟩) (BytesAt.puts [.int .i64 1, .int .u16 (s : Int), .int .u16 (t : Int), .int .u32 (f : Int), .int .u16 (y : Int), .slice r' n c', .int .u64 0, .int .u32 0, .int .u32 0, .int .u16 0, .int .u16 0, .int .u32 0, .int .u16 0] 0 B7 V7.vat (Nat.le_refl 13) (Pk.noByte _ _ _)) (puts_below (Nat.le_refl _) [.int .i64 1, .int .u16 (s : Int), .int .u16 (t : Int), .int .u32 (f : Int), .int .u16 (y : Int), .slice r' n c', .int .u64 0, .int .u32 0, .int .u32 0, .int .u16 0, .int .u16 0, .int .u32 0, .int .u16 0] 0 b7)
  have q0 : w6.cell? ⟨w.heap.size, 0, none⟩ = some (.int .i64 0) := V6.cell 0 (by decide)
  have q1 : w6.cell? ⟨w.heap.size, 1, none⟩ = some (.int .u16 0) := V6.cell 1 (by decide)
  have q2 : w6.cell? ⟨w.heap.size, 2, none⟩ = some (.int .u16 0) := V6.cell 2 (by decide)
  have q3 : w6.cell? ⟨w.heap.size, 3, none⟩ = some (.int .u32 0) := V6.cell 3 (by decide)
  have q4 : w6.cell? ⟨w.heap.size, 4, none⟩ = some (.int .u16 0) := V6.cell 4 (by decide)
  have q5 : w6.cell? ⟨w.heap.size, 5, none⟩ = some (.slice none 0 0) := V6.cell 5 (by decide)
  have q6 : w6.cell? ⟨w.heap.size, 6, none⟩ = some (.int .u64 0) := V6.cell 6 (by decide)
  have q7 : w6.cell? ⟨w.heap.size, 7, none⟩ = some (.int .u32 0) := V6.cell 7 (by decide)
  have q8 : w6.cell? ⟨w.heap.size, 8, none⟩ = some (.int .u32 0) := V6.cell 8 (by decide)
  have q9 : w6.cell? ⟨w.heap.size, 9, none⟩ = some (.int .u16 0) := V6.cell 9 (by decide)
  have q10 : w6.cell? ⟨w.heap.size, 10, none⟩ = some (.int .u16 0) := V6.cell 10 (by decide)
  have q11 : w6.cell? ⟨w.heap.size, 11, none⟩ = some (.int .u32 0) := V6.cell 11 (by decide)
  have q12 : w6.cell? ⟨w.heap.size, 12, none⟩ = some (.int .u16 0) := V6.cell 12 (by decide)
  have z0 := V6.frz 0
  have z1 := V6.frz 1
  have z2 := V6.frz 2
  have z3 := V6.frz 3
  have z4 := V6.frz 4
  have z5 := V6.frz 5
  have z6 := V6.frz 6
  have z7 := V6.frz 7
  have z8 := V6.frz 8
  have z9 := V6.frz 9
  have z10 := V6.frz 10
  have z11 := V6.frz 11
  have z12 := V6.frz 12
  have g0 : w6.cell? ⟨G, 0, none⟩ = some (.int .i64 1) := D6.cell 0 (by decide)
  have g6 : w6.cell? ⟨G, 6, none⟩ = some (.int .u64 0) := D6.cell 6 (by decide)
  have g7 : w6.cell? ⟨G, 7, none⟩ = some (.int .u32 0) := D6.cell 7 (by decide)
  have g8 : w6.cell? ⟨G, 8, none⟩ = some (.int .u32 0) := D6.cell 8 (by decide)
  have g9 : w6.cell? ⟨G, 9, none⟩ = some (.int .u16 0) := D6.cell 9 (by decide)
  have g10 : w6.cell? ⟨G, 10, none⟩ = some (.int .u16 0) := D6.cell 10 (by decide)
  have g11 : w6.cell? ⟨G, 11, none⟩ = some (.int .u32 0) := D6.cell 11 (by decide)
  have g12 : w6.cell? ⟨G, 12, none⟩ = some (.int .u16 0) := D6.cell 12 (by decide)
  have nG : w.heap.size ≠ G := by omega
  have nG2 : G ≠ w.heap.size := by omega
  clear V7 b7 D7 B7 D6 V6 b6 hG d6 k1' k2 k3
  clear HD HV HB HY hsl h
  go_wp2
  generalize ((((((((((((((((((w6.setCell ⟨G, 1, none⟩ (.int .u16 (s : Int))).setCell ⟨G, 2, none⟩ (.int .u16 (t : Int))).setCell ⟨G, 3, none⟩ (.int .u32 (f : Int))).setCell ⟨G, 4, none⟩ (.int .u16 (y : Int))).setCell ⟨G, 5, none⟩ (.slice r' n c')).setCell ⟨w.heap.size, 0, none⟩ (.int .i64 1)).setCell ⟨w.heap.size, 1, none⟩ (.int .u16 (s : Int))).setCell ⟨w.heap.size, 2, none⟩ (.int .u16 (t : Int))).setCell ⟨w.heap.size, 3, none⟩ (.int .u32 (f : Int))).setCell ⟨w.heap.size, 4, none⟩ (.int .u16 (y : Int))).setCell ⟨w.heap.size, 5, none⟩ (.slice r' n c')).setCell ⟨w.heap.size, 6, none⟩ (.int .u64 0)).setCell ⟨w.heap.size, 7, none⟩ (.int .u32 0)).setCell ⟨w.heap.size, 8, none⟩ (.int .u32 0)).setCell ⟨w.heap.size, 9, none⟩ (.int .u16 0)).setCell ⟨w.heap.size, 10, none⟩ (.int .u16 0)).setCell ⟨w.heap.size, 11, none⟩ (.int .u32 0)).setCell ⟨w.heap.size, 12, none⟩ (.int .u16 0)) = w9 at *
  clear q0 q1 q2 q3 q4 q5 q6 q7 q8 q9 q10 q11 q12 z0 z1 z2 z3 z4 z5 z6 z7 z8 z9 z10 z11 z12
  have s0 : w9.cell? ⟨w.heap.size, 0, none⟩ = some (.int .i64 1) := D9.out.cell 0 (by decide)
  have s1 : w9.cell? ⟨w.heap.size, 1, none⟩ = some (.int .u16 (s : Int)) := D9.out.cell 1 (by decide)
  have s2 : w9.cell? ⟨w.heap.size, 2, none⟩ = some (.int .u16 (t : Int)) := D9.out.cell 2 (by decide)
  have s3 : w9.cell? ⟨w.heap.size, 3, none⟩ = some (.int .u32 (f : Int)) := D9.out.cell 3 (by decide)
  have s4 : w9.cell? ⟨w.heap.size, 4, none⟩ = some (.int .u16 (y : Int)) := D9.out.cell 4 (by decide)
  have s5 : w9.cell? ⟨w.heap.size, 5, none⟩ = some (.slice r' n c') := D9.out.cell 5 (by decide)
  have s6 : w9.cell? ⟨w.heap.size, 6, none⟩ = some (.int .u64 0) := D9.out.cell 6 (by decide)
  have s7 : w9.cell? ⟨w.heap.size, 7, none⟩ = some (.int .u32 0) := D9.out.cell 7 (by decide)
  have s8 : w9.cell? ⟨w.heap.size, 8, none⟩ = some (.int .u32 0) := D9.out.cell 8 (by decide)
  have s9 : w9.cell? ⟨w.heap.size, 9, none⟩ = some (.int .u16 0) := D9.out.cell 9 (by decide)
  have s10 : w9.cell? ⟨w.heap.size, 10, none⟩ = some (.int .u16 0) := D9.out.cell 10 (by decide)
  have s11 : w9.cell? ⟨w.heap.size, 11, none⟩ = some (.int .u32 0) := D9.out.cell 11 (by decide)
  have s12 : w9.cell? ⟨w.heap.size, 12, none⟩ = some (.int .u16 0) := D9.out.cell 12 (by decide)
  refine bodyPost_ret (v := .tuple #[.agg #[.int .i64 1, .int .u16 (s : Int), .int .u16 (t : Int), .int .u32 (f : Int), .int .u16 (y : Int), .slice r' n c', .int .u64 0, .int .u32 0, .int .u32 0, .int .u16 0, .int .u16 0, .int .u32 0, .int .u16 0], .int .i64 0]) ?_ rfl HA.out
  simp [results, Try.results12, go_sem, s0, s1, s2, s3, s4, s5, s6, s7, s8, s9, s10, s11, s12]

theorem rpt_any (a : Option Addr) (L c : Nat) (x : Nat → Nat) (w : World) (hx : BytesAt w a L x) (hc : L ≤ c) (hn : L ≤ 100000) :
    Calls Try.prog 12 #[.slice a L c] w fun e w' => TkIs w L x e w' := by
  cases h0 : opB x L with
  | false => exact rpt_shut a L c x w hx hc hn h0
  | true =>
    cases h1 : opN x L with
    | zero => exact rpt_bare a L c x w hx hc hn h0 h1
    | succ m =>
      by_cases k1 : x 0 = 1
      · by_cases hm : 11 ≤ m ∧ m ≤ 74
        · exact rpt_data_yes a L c x w hx hc hn m h0 h1 k1 _ _ _ _ _ _ _ rfl (inP_data (tk_yes hm.1 hm.2)) fun _ _ _ h => h.some hm.1 hm.2
        · exact rpt_data_no a L c x w hx hc hn m h0 h1 k1 hm
      by_cases k2 : x 0 = 2
      · by_cases hm : m = 20
        · subst hm; exact rpt_rep_yes a L c x w hx hc hn 20 h0 h1 k2 _ _ _ _ _ _ rfl (inP_rep _) fun _ _ _ h => h.some
        · exact rpt_rep_no a L c x w hx hc hn m h0 h1 k2 hm
      by_cases k3 : x 0 = 3
      · by_cases hm : m = 6
        · subst hm; exact rpt_nack_yes a L c x w hx hc hn 6 h0 h1 k3 _ _ _ rfl (inP_nack _) fun _ _ _ h => h.some
        · exact rpt_nack_no a L c x w hx hc hn m h0 h1 k3 hm
      by_cases k4 : x 0 = 4
      · by_cases hm : m = 4
        · subst hm; exact rpt_gone_yes a L c x w hx hc hn 4 h0 h1 k4 _ _ rfl (inP_gone _) fun _ _ _ h => h.some
        · exact rpt_gone_no a L c x w hx hc hn m h0 h1 k4 hm
      exact rpt_kind a L c x w hx hc hn m h0 h1 (x 0) rfl (by omega)
end Go.Proofs.Ytcflaklnafggmaa

/-
  Law 13's 'begun'.
-/
import Derived.Test.YtmbpfdnadjemcaaRnk
namespace Go.Proofs.Ytmbpfdnadjemcaa
open Go.RowKit Go.Deep

theorem pair_made (w : World) (f g : Fr) : FrsAt (w.alloc (.cells #[.int .u32 (f.id : Int), .int .i64 f.k, .slice f.a f.n f.c, .int .i64 f.s, .int .i64 f.p, .int .i64 f.d, .int .u32 (g.id : Int), .int .i64 g.k, .slice g.a g.n g.c, .int .i64 g.s, .int .i64 g.p, .int .i64 g.d] 26)) (some ⟨w.heap.size, 0, none⟩) 2 (fun i => if i = 0 then f else g) := fun _ => ⟨_, 0, rfl, fun i hi => by
  have e : i = 0 ∨ i = 1 := by omega
  rcases e with rfl | rfl
  all_goals (refine ⟨?_, ?_, ?_, ?_, ?_, ?_⟩ <;> (rw [World.cell?_alloc_at _ _ _ _ rfl]; rfl))⟩
def rbI : Fr := ⟨1, 1, none, 0, 0, 0, 0, 0⟩
def rbB (B : Nat) : Fr := ⟨2, 3, some ⟨B, 0, none⟩, 1, 1, 0, 0, 0⟩
theorem rank_is {a : Option Addr} {m c : Nat} {K : Nat → Fr} {R : Nat → Nat → Int} {v x : Int} {b : Bool} {w : World} (h : rk m K R v = (x, b)) (hm : m ≤ 1000) (HK : FrsAt w a m K) (HR : RefsAll w m K R) :
    Calls Try.prog 16 #[.slice a m c, .int .u32 v] w fun e w' => e = .returned (.tuple #[.int .i64 x, .bool b]) ∧ Below w.heap.size w w' :=
  (of_any a m c K R v w hm HK HR).mono fun _ _ ⟨e, hb⟩ => ⟨by rw [e, h], hb⟩

set_option maxRecDepth 100000 in
set_option maxHeartbeats 2000000 in
theorem begun13 (w : World) : Calls Try.prog 14 #[] w fun e w' => e = .returned (.bool true) ∧ Below w.heap.size w w' := by
  have B0 := box_below w (.cells #[.int .u32 1, .int .i64 1, .slice none 0 0, .int .i64 0, .int .i64 0, .int .i64 0] 26)
  have B1 := box_below (w.alloc (.cells #[.int .u32 1, .int .i64 1, .slice none 0 0, .int .i64 0, .int .i64 0, .int .i64 0] 26)) (.cells #[.int .u32 1] 23)
  have B2 := box_below ((w.alloc (.cells #[.int .u32 1, .int .i64 1, .slice none 0 0, .int .i64 0, .int .i64 0, .int .i64 0] 26)).alloc (.cells #[.int .u32 1] 23)) (.cells #[.int .u32 2, .int .i64 3, .slice (some ⟨w.heap.size + 1, 0, none⟩) 1 1, .int .i64 0, .int .i64 0, .int .i64 0] 26)
  have B3 := box_below (((w.alloc (.cells #[.int .u32 1, .int .i64 1, .slice none 0 0, .int .i64 0, .int .i64 0, .int .i64 0] 26)).alloc (.cells #[.int .u32 1] 23)).alloc (.cells #[.int .u32 2, .int .i64 3, .slice (some ⟨w.heap.size + 1, 0, none⟩) 1 1, .int .i64 0, .int .i64 0, .int .i64 0] 26)) (.cells #[.int .u32 1, .int .i64 1, .slice none 0 0, .int .i64 0, .int .i64 0, .int .i64 0, .int .u32 2, .int .i64 3, .slice (some ⟨w.heap.size + 1, 0, none⟩) 1 1, .int .i64 0, .int .i64 0, .int .i64 0] 26)
  have z0 : (w.alloc (.cells #[.int .u32 1, .int .i64 1, .slice none 0 0, .int .i64 0, .int .i64 0, .int .i64 0] 26)).heap.size = w.heap.size + 1 := by simp
  have z1 : ((w.alloc (.cells #[.int .u32 1, .int .i64 1, .slice none 0 0, .int .i64 0, .int .i64 0, .int .i64 0] 26)).alloc (.cells #[.int .u32 1] 23)).heap.size = w.heap.size + 1 + 1 := by simp
  have z2 : (((w.alloc (.cells #[.int .u32 1, .int .i64 1, .slice none 0 0, .int .i64 0, .int .i64 0, .int .i64 0] 26)).alloc (.cells #[.int .u32 1] 23)).alloc (.cells #[.int .u32 2, .int .i64 3, .slice (some ⟨w.heap.size + 1, 0, none⟩) 1 1, .int .i64 0, .int .i64 0, .int .i64 0] 26)).heap.size = w.heap.size + 1 + 1 + 1 := by simp
  have D1 : FrAt (w.alloc (.cells #[.int .u32 1, .int .i64 1, .slice none 0 0, .int .i64 0, .int .i64 0, .int .i64 0] 26)) w.heap.size rbI := FrAt.made w _ rbI
  have R1 : ((w.alloc (.cells #[.int .u32 1, .int .i64 1, .slice none 0 0, .int .i64 0, .int .i64 0, .int .i64 0] 26)).alloc (.cells #[.int .u32 1] 23)).cell? ⟨w.heap.size + 1, 0, none⟩ = some (.int .u32 1) := by rw [← z0, World.cell?_alloc_at _ _ _ _ rfl]; rfl
  have D2 : FrAt (((w.alloc (.cells #[.int .u32 1, .int .i64 1, .slice none 0 0, .int .i64 0, .int .i64 0, .int .i64 0] 26)).alloc (.cells #[.int .u32 1] 23)).alloc (.cells #[.int .u32 2, .int .i64 3, .slice (some ⟨w.heap.size + 1, 0, none⟩) 1 1, .int .i64 0, .int .i64 0, .int .i64 0] 26)) (w.heap.size + 1 + 1) (rbB (w.heap.size + 1)) := by rw [← z1]; exact FrAt.made ((w.alloc (.cells #[.int .u32 1, .int .i64 1, .slice none 0 0, .int .i64 0, .int .i64 0, .int .i64 0] 26)).alloc (.cells #[.int .u32 1] 23)) _ (rbB (w.heap.size + 1))
  have HK : Hid (FrsAt ((((w.alloc (.cells #[.int .u32 1, .int .i64 1, .slice none 0 0, .int .i64 0, .int .i64 0, .int .i64 0] 26)).alloc (.cells #[.int .u32 1] 23)).alloc (.cells #[.int .u32 2, .int .i64 3, .slice (some ⟨w.heap.size + 1, 0, none⟩) 1 1, .int .i64 0, .int .i64 0, .int .i64 0] 26)).alloc (.cells #[.int .u32 1, .int .i64 1, .slice none 0 0, .int .i64 0, .int .i64 0, .int .i64 0, .int .u32 2, .int .i64 3, .slice (some ⟨w.heap.size + 1, 0, none⟩) 1 1, .int .i64 0, .int .i64 0, .int .i64 0] 26)) (some ⟨w.heap.size + 1 + 1 + 1, 0, none⟩) 2 (fun i => if i = 0 then rbI else rbB (w.heap.size + 1))) := by
    show FrsAt ((((w.alloc (.cells #[.int .u32 1, .int .i64 1, .slice none 0 0, .int .i64 0, .int .i64 0, .int .i64 0] 26)).alloc (.cells #[.int .u32 1] 23)).alloc (.cells #[.int .u32 2, .int .i64 3, .slice (some ⟨w.heap.size + 1, 0, none⟩) 1 1, .int .i64 0, .int .i64 0, .int .i64 0] 26)).alloc (.cells #[.int .u32 1, .int .i64 1, .slice none 0 0, .int .i64 0, .int .i64 0, .int .i64 0, .int .u32 2, .int .i64 3, .slice (some ⟨w.heap.size + 1, 0, none⟩) 1 1, .int .i64 0, .int .i64 0, .int .i64 0] 26)) (some ⟨w.heap.size + 1 + 1 + 1, 0, none⟩) 2 (fun i => if i = 0 then rbI else rbB (w.heap.size + 1))
    rw [← z2]; exact pair_made (((w.alloc (.cells #[.int .u32 1, .int .i64 1, .slice none 0 0, .int .i64 0, .int .i64 0, .int .i64 0] 26)).alloc (.cells #[.int .u32 1] 23)).alloc (.cells #[.int .u32 2, .int .i64 3, .slice (some ⟨w.heap.size + 1, 0, none⟩) 1 1, .int .i64 0, .int .i64 0, .int .i64 0] 26)) rbI (rbB (w.heap.size + 1))
  have B23 := B2.trans (B3.mono B2.size)
  have HR : Hid (RefsAll ((((w.alloc (.cells #[.int .u32 1, .int .i64 1, .slice none 0 0, .int .i64 0, .int .i64 0, .int .i64 0] 26)).alloc (.cells #[.int .u32 1] 23)).alloc (.cells #[.int .u32 2, .int .i64 3, .slice (some ⟨w.heap.size + 1, 0, none⟩) 1 1, .int .i64 0, .int .i64 0, .int .i64 0] 26)).alloc (.cells #[.int .u32 1, .int .i64 1, .slice none 0 0, .int .i64 0, .int .i64 0, .int .i64 0, .int .u32 2, .int .i64 3, .slice (some ⟨w.heap.size + 1, 0, none⟩) 1 1, .int .i64 0, .int .i64 0, .int .i64 0] 26)) 2 (fun i => if i = 0 then rbI else rbB (w.heap.size + 1)) (fun _ _ => 1)) := fun q hq => by
    by_cases e : q = 0
    · simp only [if_pos e]
      exact ⟨fun h => absurd h (by decide), by decide, by decide⟩
    · simp only [if_neg e]
      refine ⟨fun _ => ⟨w.heap.size + 1, 0, rfl, fun i hi => ?_⟩, Nat.le_refl _, (by decide : (1 : Nat) ≤ 1000)⟩
      obtain rfl : i = 0 := by have hi : i < 1 := hi; omega
      exact (B23.cell (p := ⟨w.heap.size + 1, 0, none⟩) (cell_lt R1)).trans R1
  have HB : Hid (Below w.heap.size w ((((w.alloc (.cells #[.int .u32 1, .int .i64 1, .slice none 0 0, .int .i64 0, .int .i64 0, .int .i64 0] 26)).alloc (.cells #[.int .u32 1] 23)).alloc (.cells #[.int .u32 2, .int .i64 3, .slice (some ⟨w.heap.size + 1, 0, none⟩) 1 1, .int .i64 0, .int .i64 0, .int .i64 0] 26)).alloc (.cells #[.int .u32 1, .int .i64 1, .slice none 0 0, .int .i64 0, .int .i64 0, .int .i64 0, .int .u32 2, .int .i64 3, .slice (some ⟨w.heap.size + 1, 0, none⟩) 1 1, .int .i64 0, .int .i64 0, .int .i64 0] 26))) := (B0.trans (B1.mono B0.size)).trans (B23.mono (Nat.le_trans B0.size B1.size))
  obtain ⟨i0, i1, i2, i3, i4, i5, -⟩ := (D1.grew B1).grew B2
  obtain ⟨p0, p1, p2, p3, p4, p5, -⟩ := D2
  simp only [rbI, rbB] at i0 i1 i2 i3 i4 i5 p0 p1 p2 p3 p4 p5
  clear B0 B1 B2 B3 B23 D1 R1 z0 z1 z2
  go_enter Try.func14, Try.ntmps14
  go_wp2_with fail
  clear i0 i1 i2 i3 i4 i5 p0 p1 p2 p3 p4 p5
  generalize ((((w.alloc (.cells #[.int .u32 1, .int .i64 1, .slice none 0 0, .int .i64 0, .int .i64 0, .int .i64 0] 26)).alloc (.cells #[.int .u32 1] 23)).alloc (.cells #[.int .u32 2, .int .i64 3, .slice (some ⟨w.heap.size + 1, 0, none⟩) 1 1, .int .i64 0, .int .i64 0, .int .i64 0] 26)).alloc (.cells #[.int .u32 1, .int .i64 1, .slice none 0 0, .int .i64 0, .int .i64 0, .int .i64 0, .int .u32 2, .int .i64 3, .slice (some ⟨w.heap.size + 1, 0, none⟩) 1 1, .int .i64 0, .int .i64 0, .int .i64 0] 26)) = x3 at *
  refine (rank_is (x := 3) (b := true) (K := fun i => if i = 0 then rbI else rbB (w.heap.size + 1)) (R := fun _ _ => 1) (by kernel_rfl) (by decide) HK.out HR.out).mono ?_
  rintro e w4 ⟨rfl, d4⟩
  have HB : Hid (Below w.heap.size w w4) := HB.out.trans (d4.mono HB.out.size)
  clear d4
  go_wp2_with fail
  refine (rank_is (x := 0) (b := false) (m := 0) (K := fun _ => rbI) (R := fun _ _ => 1) (by kernel_rfl) (by decide) (FrsAt.nil _ _) (fun q hq => absurd hq (by omega))).mono ?_
  rintro e w5 ⟨rfl, d5⟩
  have HB : Hid (Below w.heap.size w w5) := HB.out.trans (d5.mono HB.out.size)
  clear d5
  go_wp2_with fail
  refine (worse_is (a := ⟨0, 2, 0⟩) (b := ⟨0, 1, 0⟩) (B := true) (by kernel_rfl) _).mono ?_
  rintro e w6 ⟨rfl, d6⟩
  have HB : Hid (Below w.heap.size w w6) := HB.out.trans (d6.mono HB.out.size)
  clear d6
  go_wp2_with fail
  refine (worse_is (a := ⟨0, 0, 0⟩) (b := ⟨0, 0, 0⟩) (B := false) (by kernel_rfl) _).mono ?_
  rintro e w7 ⟨rfl, d7⟩
  have HB : Hid (Below w.heap.size w w7) := HB.out.trans (d7.mono HB.out.size)
  clear d7
  go_wp2
  go_ret
  exact ⟨rfl, HB.out⟩
end Go.Proofs.Ytmbpfdnadjemcaa

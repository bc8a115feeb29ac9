/-
  Law 12's 'begun'.
-/
import Derived.Test.YtmbpfdnadjemcaaFcf
namespace Go.Proofs.Ytmbpfdnadjemcaa
open Go.RowKit Go.Deep

theorem check_is {f : Fr} {r : Nat → Int} {a : Option Addr} {m c : Nat} {K : Nat → Fr} {t s : Int} {w : World} {E : Int} (hE : chk f r m K t s = E) (hm : m ≤ 1000) (HR : RefsAt w f r) (HK : FrsAt w a m K) :
    Calls Try.prog 12 #[f.val, .slice a m c, .int .i64 t, .int .i64 s] w (NumIs w E) := hE ▸ check_any f r a m c K t s w hm HR HK
def frI : Fr := ⟨1, 1, none, 0, 0, 3, 0, 5⟩
def frP (B : Nat) : Fr := ⟨2, 2, some ⟨B, 0, none⟩, 1, 1, 3, 0, 5⟩
def frZ : Fr := ⟨0, 0, none, 0, 0, 0, 0, 0⟩
/-- begun's variables. -/
structure Bg (w : World) (B : Nat) : Prop where
  i : FrAt w B frI
  r : w.cell? ⟨B + 1, 0, none⟩ = some (.int .u32 1)
  p : FrAt w (B + 1 + 1) (frP (B + 1))
theorem Bg.grew {w w' : World} {B : Nat} (h : Bg w B) (hb : Below w.heap.size w w') : Bg w' B := ⟨h.i.grew hb, (hb.cell (p := ⟨B + 1, 0, none⟩) (cell_lt h.r)).trans h.r, h.p.grew hb⟩
theorem Bg.refsI {w : World} {B : Nat} (_ : Bg w B) : RefsAt w frI (fun _ => 1) := ⟨fun h => absurd h (by decide), by decide, by decide⟩
theorem refsZ (w : World) : RefsAt w frZ (fun _ => 1) := ⟨fun h => absurd h (by decide), by decide, by decide⟩
theorem Bg.refsP {w : World} {B : Nat} (h : Bg w B) : RefsAt w (frP (B + 1)) (fun _ => 1) := ⟨fun _ => ⟨B + 1, 0, rfl, fun i hi => by
  obtain rfl : i = 0 := by have hi : i < 1 := hi; omega
  exact h.r⟩, Nat.le_refl _, (by decide : (1 : Nat) ≤ 1000)⟩
theorem frs_one {w : World} (B : Nat) (f : Fr) (h : FrAt w B f) : FrsAt w (some ⟨B, 0, none⟩) 1 (fun _ => f) := fun _ => ⟨B, 0, rfl, fun i hi => by
  obtain rfl : i = 0 := by omega
  exact ⟨h.c0, h.c1, h.c2, h.c3, h.c4, h.c5⟩⟩

set_option maxRecDepth 100000 in
set_option maxHeartbeats 2000000 in
theorem begun12 (w : World) : Calls Try.prog 8 #[] w fun e w' => e = .returned (.bool true) ∧ Below w.heap.size w w' := by
  have B1 := box_below w (.cells #[.int .u32 1, .int .i64 1, .slice none 0 0, .int .i64 3, .int .i64 0, .int .i64 5] 26)
  have B2 := box_below (w.alloc (.cells #[.int .u32 1, .int .i64 1, .slice none 0 0, .int .i64 3, .int .i64 0, .int .i64 5] 26)) (.cells #[.int .u32 1] 23)
  have B3 := box_below ((w.alloc (.cells #[.int .u32 1, .int .i64 1, .slice none 0 0, .int .i64 3, .int .i64 0, .int .i64 5] 26)).alloc (.cells #[.int .u32 1] 23)) (.cells #[.int .u32 2, .int .i64 2, .slice (some ⟨w.heap.size + 1, 0, none⟩) 1 1, .int .i64 3, .int .i64 0, .int .i64 5] 26)
  have z1 : (w.alloc (.cells #[.int .u32 1, .int .i64 1, .slice none 0 0, .int .i64 3, .int .i64 0, .int .i64 5] 26)).heap.size = w.heap.size + 1 := by simp
  have z2 : ((w.alloc (.cells #[.int .u32 1, .int .i64 1, .slice none 0 0, .int .i64 3, .int .i64 0, .int .i64 5] 26)).alloc (.cells #[.int .u32 1] 23)).heap.size = w.heap.size + 1 + 1 := by simp
  have D1 : FrAt (w.alloc (.cells #[.int .u32 1, .int .i64 1, .slice none 0 0, .int .i64 3, .int .i64 0, .int .i64 5] 26)) w.heap.size frI := FrAt.made w _ frI
  have R2 : ((w.alloc (.cells #[.int .u32 1, .int .i64 1, .slice none 0 0, .int .i64 3, .int .i64 0, .int .i64 5] 26)).alloc (.cells #[.int .u32 1] 23)).cell? ⟨w.heap.size + 1, 0, none⟩ = some (.int .u32 1) := by rw [← z1, World.cell?_alloc_at _ _ _ _ rfl]; rfl
  have D3 : FrAt (((w.alloc (.cells #[.int .u32 1, .int .i64 1, .slice none 0 0, .int .i64 3, .int .i64 0, .int .i64 5] 26)).alloc (.cells #[.int .u32 1] 23)).alloc (.cells #[.int .u32 2, .int .i64 2, .slice (some ⟨w.heap.size + 1, 0, none⟩) 1 1, .int .i64 3, .int .i64 0, .int .i64 5] 26)) (w.heap.size + 1 + 1) (frP (w.heap.size + 1)) := by rw [← z2]; exact FrAt.made ((w.alloc (.cells #[.int .u32 1, .int .i64 1, .slice none 0 0, .int .i64 3, .int .i64 0, .int .i64 5] 26)).alloc (.cells #[.int .u32 1] 23)) _ (frP (w.heap.size + 1))
  have G : Hid (Bg (((w.alloc (.cells #[.int .u32 1, .int .i64 1, .slice none 0 0, .int .i64 3, .int .i64 0, .int .i64 5] 26)).alloc (.cells #[.int .u32 1] 23)).alloc (.cells #[.int .u32 2, .int .i64 2, .slice (some ⟨w.heap.size + 1, 0, none⟩) 1 1, .int .i64 3, .int .i64 0, .int .i64 5] 26)) w.heap.size) := ⟨(D1.grew B2).grew B3, (B3.cell (p := ⟨w.heap.size + 1, 0, none⟩) (cell_lt R2)).trans R2, D3⟩
  have BB : Hid (Below w.heap.size w (((w.alloc (.cells #[.int .u32 1, .int .i64 1, .slice none 0 0, .int .i64 3, .int .i64 0, .int .i64 5] 26)).alloc (.cells #[.int .u32 1] 23)).alloc (.cells #[.int .u32 2, .int .i64 2, .slice (some ⟨w.heap.size + 1, 0, none⟩) 1 1, .int .i64 3, .int .i64 0, .int .i64 5] 26))) := (B1.trans (B2.mono B1.size)).trans (B3.mono (Nat.le_trans B1.size B2.size))
  obtain ⟨⟨i0, i1, i2, i3, i4, i5, -⟩, -, ⟨p0, p1, p2, p3, p4, p5, -⟩⟩ := G.out
  simp only [frI, frP] at i0 i1 i2 i3 i4 i5 p0 p1 p2 p3 p4 p5
  clear B1 B2 B3 z1 z2 D1 R2 D3
  go_enter Try.func8, Try.ntmps8
  go_wp2_with fail
  generalize (((w.alloc (.cells #[.int .u32 1, .int .i64 1, .slice none 0 0, .int .i64 3, .int .i64 0, .int .i64 5] 26)).alloc (.cells #[.int .u32 1] 23)).alloc (.cells #[.int .u32 2, .int .i64 2, .slice (some ⟨w.heap.size + 1, 0, none⟩) 1 1, .int .i64 3, .int .i64 0, .int .i64 5] 26)) = w3 at *
  have BW : Hid (Below w3.heap.size w3 w3) := Below.refl _ _
  refine (check_is (f := frI) (r := fun _ => 1) (a := none) (m := 0) (c := 0) (K := fun _ => frI) (t := 0) (s := 2) (E := 0) (by kernel_rfl) (by decide) G.out.refsI (FrsAt.nil _ _)).mono ?_
  rintro e w4 ⟨rfl, hb⟩
  have BW : Hid (Below w3.heap.size w3 w4) := BW.out.trans (hb.mono BW.out.size)
  clear hb i0 i1 i2 i3 i4 i5 p0 p1 p2 p3 p4 p5
  obtain ⟨⟨i0, i1, i2, i3, i4, i5, -⟩, -, ⟨p0, p1, p2, p3, p4, p5, -⟩⟩ := G.out.grew BW.out
  simp only [frI, frP] at i0 i1 i2 i3 i4 i5 p0 p1 p2 p3 p4 p5
  have B4 := box_below w4 (.cells #[.int .u32 1, .int .i64 1, .slice none 0 0, .int .i64 3, .int .i64 0, .int .i64 5] 26)
  have F5 : Hid (FrsAt (w4.alloc (.cells #[.int .u32 1, .int .i64 1, .slice none 0 0, .int .i64 3, .int .i64 0, .int .i64 5] 26)) (some ⟨w4.heap.size, 0, none⟩) 1 (fun _ => frI)) := frs_one _ frI (FrAt.made w4 _ frI)
  have BW5 : Hid (Below w3.heap.size w3 (w4.alloc (.cells #[.int .u32 1, .int .i64 1, .slice none 0 0, .int .i64 3, .int .i64 0, .int .i64 5] 26))) := BW.out.trans (B4.mono BW.out.size)
  clear B4
  go_wp2_with fail
  generalize w4.alloc (.cells #[.int .u32 1, .int .i64 1, .slice none 0 0, .int .i64 3, .int .i64 0, .int .i64 5] 26) = w5 at *
  have BW := BW5
  clear BW5
  refine (check_is (f := frP (w.heap.size + 1)) (r := fun _ => 1) (m := 1) (K := fun _ => frI) (t := 0) (s := 2) (E := 0) (by kernel_rfl) (by decide) (G.out.grew BW.out).refsP F5.out).mono ?_
  rintro e w6 ⟨rfl, hb⟩
  have BW : Hid (Below w3.heap.size w3 w6) := BW.out.trans (hb.mono BW.out.size)
  clear hb i0 i1 i2 i3 i4 i5 p0 p1 p2 p3 p4 p5
  obtain ⟨⟨i0, i1, i2, i3, i4, i5, -⟩, -, ⟨p0, p1, p2, p3, p4, p5, -⟩⟩ := G.out.grew BW.out
  simp only [frI, frP] at i0 i1 i2 i3 i4 i5 p0 p1 p2 p3 p4 p5
  go_wp2_with fail
  refine (check_is (f := frP (w.heap.size + 1)) (r := fun _ => 1) (a := none) (m := 0) (c := 0) (K := fun _ => frI) (t := 0) (s := 2) (E := 6) (by kernel_rfl) (by decide) (G.out.grew BW.out).refsP (FrsAt.nil _ _)).mono ?_
  rintro e w7 ⟨rfl, hb⟩
  have BW : Hid (Below w3.heap.size w3 w7) := BW.out.trans (hb.mono BW.out.size)
  clear hb i0 i1 i2 i3 i4 i5 p0 p1 p2 p3 p4 p5
  obtain ⟨⟨i0, i1, i2, i3, i4, i5, -⟩, -, ⟨p0, p1, p2, p3, p4, p5, -⟩⟩ := G.out.grew BW.out
  simp only [frI, frP] at i0 i1 i2 i3 i4 i5 p0 p1 p2 p3 p4 p5
  go_wp2_with fail
  refine (check_is (f := frI) (r := fun _ => 1) (a := none) (m := 0) (c := 0) (K := fun _ => frI) (t := 5) (s := 2) (E := 7) (by kernel_rfl) (by decide) (G.out.grew BW.out).refsI (FrsAt.nil _ _)).mono ?_
  rintro e w8 ⟨rfl, hb⟩
  have BW : Hid (Below w3.heap.size w3 w8) := BW.out.trans (hb.mono BW.out.size)
  clear hb i0 i1 i2 i3 i4 i5 p0 p1 p2 p3 p4 p5
  obtain ⟨⟨i0, i1, i2, i3, i4, i5, -⟩, -, ⟨p0, p1, p2, p3, p4, p5, -⟩⟩ := G.out.grew BW.out
  simp only [frI, frP] at i0 i1 i2 i3 i4 i5 p0 p1 p2 p3 p4 p5
  go_wp2_with fail
  refine (check_is (f := frZ) (r := fun _ => 1) (a := none) (m := 0) (c := 0) (K := fun _ => frI) (t := 0) (s := 2) (E := 1) (by kernel_rfl) (by decide) (refsZ _) (FrsAt.nil _ _)).mono ?_
  rintro e w9 ⟨rfl, hb⟩
  go_wp2
  go_ret
  exact ⟨rfl, BB.out.trans ((BW.out.trans (hb.mono BW.out.size)).mono BB.out.size)⟩
end Go.Proofs.Ytmbpfdnadjemcaa

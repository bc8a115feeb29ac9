/-
  Of two texts of one length, the sum of what is unlike in them is what is unlike in their sums, but for the sum of as many noughts: the call returns true, whatever the texts are (the first 40 bytes that both have are looked at; no condition).
-/
import Derived.Test.YtehednmbapgbeaaRows
import Derived.WalkKit
import Derived.ProofKit
import Derived.OpenShut
import Derived.ShutString
import Derived.ChangeOld
import Derived.Below
import Derived.Test.YtehednmbapgbeaaSbg
import Derived.OrdersHeld
import Derived.Deep.RegionHeld
namespace Go.Proofs.Ytehednmbapgbeaa.sumSums
open Go.ChangeShapes Go.WideShapes Go.ChangeAt Go.RowKit
open Go.ChangeMaps (open_string shut_string)
set_option linter.unusedVariables false

theorem own : ownKnob Try.prog.godebug = none := by kernel_rfl
theorem laidOut : laidOutB Try.prog = true := by kernel_rfl

/-- WHAT THE WALK IS TOLD OF A SLICE OF INTEGERS THAT CAME IN: it is nil; or it leads to a row of 'cap' cells, the numbers 'zs' (the first 'len' are its elements, the rest its spare room), each fitting its kind. -/
def IsRow (k : IntKind) (w : World) (a : Option Addr) (len cap : Nat) (zs : List Int) : Prop :=
  (a = none ∧ len = 0 ∧ cap = 0 ∧ zs = []) ∨
  ∃ x, a = some x ∧ len ≤ cap ∧ cap ≤ maxLen ∧ zs.length = cap ∧ (∀ i, i < zs.length → w.cell? (x.add i) = some (.int k (zs.getD i 0))) ∧ ∀ n ∈ zs, (Lit.int k n).wf = true

open Go.Deep

theorem xor_row {w : World} {B t K j : Nat} {x y : Nat → Nat} (h : w.rowIs B t K (byteAt fun i => if i < j then x i ^^^ y i else 0)) : (w.setCell ⟨B, j, none⟩ (.int .u8 ((x j ^^^ y j : Nat) : Int))).rowIs B t K (byteAt fun i => if i < j + 1 then x i ^^^ y i else 0) := by
  refine (h.set j _).congr fun i _ => ?_
  unfold byteAt
  by_cases e : i = j
  · subst e; simp
  · by_cases g : i < j
    · simp [e, g, show i < j + 1 by omega]
    · simp [e, g, show ¬ i < j + 1 by omega]
theorem made_zero (w : World) (n : Nat) : BytesAt (w.alloc (.cells (madeCells #[.int .u8 0] n) 5)) (some ⟨w.heap.size, 0, none⟩) n (fun _ => 0) :=
  ⟨fun _ => ⟨_, 0, rfl, fun i hi => by rw [Nat.zero_add]; exact (World.rowIs_made w (.int .u8 0) n 5).cell hi⟩, fun _ _ => by decide⟩
theorem min3 (ts : Array TypeId) (t : TypeId) (x y z N : Int) (w : World) (h : min (min x y) z = N) : (Builtin.min_ ts t #[.int .i64 x, .int .i64 y, .int .i64 z]).run Try.prog w = .ok (.int .i64 N) w := by
  subst h
  simp [Builtin.min_, Builtin.min2]
  repeat' split
  all_goals omega

set_option maxRecDepth 100000 in
set_option maxHeartbeats 1000000 in
theorem walk0 (a0 : Option Addr) (len0 cap0 : Nat) (x : Nat → Nat) (a1 : Option Addr) (len1 cap1 : Nat) (y : Nat → Nat) (w : World) (hx : BytesAt w a0 len0 x) (hc0 : len0 ≤ cap0) (hm0 : cap0 ≤ maxLen) (hy : BytesAt w a1 len1 y) (hc1 : len1 ≤ cap1) (hm1 : cap1 ≤ maxLen) :
    Calls Try.prog 5 #[.slice a0 len0 cap0, .slice a1 len1 cap1] w fun e w' => e = .returned (.bool true) ∧ Below w.heap.size w w' := by
  obtain ⟨n, hn⟩ : ∃ n, n = min (min len0 len1) 40 := ⟨_, rfl⟩
  have n0 : n ≤ len0 := by omega
  have n1 : n ≤ len1 := by omega
  have n40 : n ≤ 40 := by omega
  have hmin := fun ts t W => min3 ts t (len0 : Int) (len1 : Int) 40 (n : Int) W (by omega)
  have hmk := run_make_row' (P := Try.prog) 22 5 (.int .u8 0) 1 Try.underlying22 Try.infoByte rfl .i64 .i64 n (by omega) (by omega)
  have HX : Hid (BytesAt w a0 len0 x) := hx
  have HY : Hid (BytesAt w a1 len1 y) := hy
  clear hn hx hy
  go_enter Try.func5, Try.ntmps5
  go_wp2_with fail
  refine (begun7 _).mono ?_
  rintro e w0 ⟨rfl, b0⟩
  go_wp2_with fail
  clear hmin
  have R1 : (w0.alloc (.cells (madeCells #[.int .u8 0] n) 5)).rowIs w0.heap.size 5 n (byteAt fun i => if i < 0 then x i ^^^ y i else 0) := (World.rowIs_made w0 (.int .u8 0) n 5).congr fun i _ => by unfold byteAt; simp
  have b1 := b0.alloc b0.size (.cells (madeCells #[.int .u8 0] n) 5)
  have l0 := b0.size
  clear b0
  generalize (w0.alloc (.cells (madeCells #[.int .u8 0] n) 5)) = w1 at *
  generalize w0.heap.size = B at *
  go_loopw [7] (fun i wr => ∃ j : Nat, j ≤ n ∧ i = .int .i64 j ∧ wr.rowIs B 5 n (byteAt fun i => if i < j then x i ^^^ y i else 0) ∧ Below w.heap.size w wr) (fun i _ => n - (intOf i).toNat)
  case atStart => exact ⟨0, Nat.zero_le _, rfl, R1, b1⟩
  case round =>
    clear R1 b1
    obtain ⟨j, hj, rfl, hrow, hb⟩ := hrel
    by_cases hlt : j < n
    · have i1 : (j : Int) < (n : Int) := by omega
      have i2 : (j : Int) < (len0 : Int) := by omega
      have i3 : (j : Int) < (len1 : Int) := by omega
      obtain ⟨p1, o1, rfl, cx⟩ := (HX.out.below hb (Nat.le_refl _)).cells (by omega)
      obtain ⟨p2, o2, rfl, cy⟩ := (HY.out.below hb (Nat.le_refl _)).cells (by omega)
      have c1 := cx j (by omega)
      have c2 := cy j (by omega)
      have e1 := u8_xor_nat (x j) (y j) (HX.out.lt j (by omega)) (HY.out.lt j (by omega))
      obtain ⟨v3, c3⟩ : ∃ v, wr.cell? ⟨B, j, none⟩ = some v := ⟨_, hrow.cell hlt⟩
      have f3 := hrow.frozen j
      have HR : Hid ((wr.setCell ⟨B, j, none⟩ (.int .u8 ((x j ^^^ y j : Nat) : Int))).rowIs B 5 n (byteAt fun i => if i < j + 1 then x i ^^^ y i else 0)) := xor_row hrow
      have HB : Hid (Below w.heap.size w (wr.setCell ⟨B, j, none⟩ (.int .u8 ((x j ^^^ y j : Nat) : Int)))) := hb.setCell l0 _
      generalize x j ^^^ y j = z at *
      generalize x j = xj at *
      generalize y j = yj at *
      clear cx cy hrow hb hj
      go_wp2_with fail
      go_region
      go_wp2
      go_roundw
      case rel => exact ⟨j + 1, by omega, by go_num, HR.out.drew, HB.out.drew⟩
      case measure => simp [intOf]; omega
    · obtain rfl : j = n := by omega
      have HR : Hid (wr.rowIs B 5 j (byteAt fun i => if i < j then x i ^^^ y i else 0)) := hrow
      have HB : Hid (Below w.heap.size w wr) := hb
      clear hrow hb hlt hj
      have lx : ∀ i, i < j → x i < 256 := fun i hi => HX.out.lt i (by omega)
      have ly : ∀ i, i < j → y i < 256 := fun i hi => HY.out.lt i (by omega)
      have hs0 := fun W => slice_to a0 len0 cap0 j W (by omega)
      have hs1 := fun W => slice_to a1 len1 cap1 j W (by omega)
      have C0 : Hid (∀ W, Below w.heap.size w W → Calls Try.prog 11 #[.slice a0 j cap0] W fun e w' => e = .returned (.int .u32 (Crc.sum x j : Int)) ∧ Below W.heap.size W w') := fun W hW => sum_any a0 j cap0 x W ((HX.out.below hW (Nat.le_refl _)).take n0) (by omega)
      have C1 : Hid (∀ W, Below w.heap.size w W → Calls Try.prog 11 #[.slice a1 j cap1] W fun e w' => e = .returned (.int .u32 (Crc.sum y j : Int)) ∧ Below W.heap.size W w') := fun W hW => sum_any a1 j cap1 y W ((HY.out.below hW (Nat.le_refl _)).take n1) (by omega)
      have C2 : Hid (∀ W, W.rowIs B 5 j (byteAt fun i => if i < j then x i ^^^ y i else 0) → Calls Try.prog 11 #[.slice (some ⟨B, 0, none⟩) j j] W fun e w' => e = .returned (.int .u32 (Crc.sum (fun i => x i ^^^ y i) j : Int)) ∧ Below W.heap.size W w') := fun W hW => sum_any _ j j _ W (row_bytes' (x := fun i => x i ^^^ y i) hW (fun i hi => if_pos hi) (fun i hi => Nat.xor_lt_two_pow (n := 8) (lx i hi) (ly i hi))) (by omega)
      have C3 : Hid (∀ W G, BytesAt W (some ⟨G, 0, none⟩) j (fun _ => 0) → Calls Try.prog 11 #[.slice (some ⟨G, 0, none⟩) j j] W fun e w' => e = .returned (.int .u32 (Crc.sum (fun _ => 0) j : Int)) ∧ Below W.heap.size W w') := fun W G hW => sum_any _ j j _ W hW (by omega)
      have e8 := u32_xor (Crc.sum x j) (Crc.sum y j) (Crc.sum_lt j lx) (Crc.sum_lt j ly)
      have e14 := u32_xor (Crc.sum (fun i => x i ^^^ y i) j) (Crc.sum (fun _ => 0) j) (Crc.sum_lt j fun i hi => Nat.xor_lt_two_pow (n := 8) (lx i hi) (ly i hi)) (Crc.sum_lt j fun _ _ => by decide)
      rw [← Crc.sum_xor j lx ly] at e14
      generalize Crc.sum x j ^^^ Crc.sum y j = X at *
      generalize Crc.sum x j = A0 at *
      generalize Crc.sum y j = A1 at *
      generalize Crc.sum (fun i => x i ^^^ y i) j = A2 at *
      generalize Crc.sum (fun _ => 0) j = A3 at *
      clear lx ly
      go_wp2_with fail
      refine wp_region_held (S := fun _ => True) (by kernel_rfl) ?_
      change wpAnyH _ _ _ _ _ _ _ _ wr.drew
      have HR : Hid (wr.drew.rowIs B 5 j (byteAt fun i => if i < j then x i ^^^ y i else 0)) := HR.out.drew
      have HB : Hid (Below w.heap.size w wr.drew) := HB.out.drew
      generalize wr.drew = w3 at *
      refine wpAnyH_take (i := 0) (v := .slice a0 len0 cap0) rfl (by kernel_rfl) (by kernel_rfl) (by kernel_rfl) (fun _ _ _ h => h) (Yields.yieldsIf (Or.inl ⟨by kernel_rfl, fun _ => by kernel_rfl⟩)) trivial ?_
      refine wpAnyH_take (i := 1) (v := .int .i64 (j : Int)) rfl (by kernel_rfl) (by kernel_rfl) (by kernel_rfl) (fun _ _ _ h => h) (Yields.yieldsIf (Or.inl ⟨by kernel_rfl, fun _ => by kernel_rfl⟩)) trivial ?_
      refine wpAnyH_take (i := 2) (v := .slice a0 j cap0) rfl (by kernel_rfl) (by kernel_rfl) (by kernel_rfl) (fun _ _ _ h => h) (Yields.yieldsIf (Or.inl ⟨by kernel_rfl, fun _ => by go_simp⟩)) trivial ?_
      refine wpAnyH_take (i := 4) (v := .slice a1 len1 cap1) rfl (by kernel_rfl) (by kernel_rfl) (by kernel_rfl) (fun _ _ _ h => h) (Yields.yieldsIf (Or.inl ⟨by kernel_rfl, fun _ => by kernel_rfl⟩)) trivial ?_
      refine wpAnyH_take (i := 5) (v := .int .i64 (j : Int)) rfl (by kernel_rfl) (by kernel_rfl) (by kernel_rfl) (fun _ _ _ h => h) (Yields.yieldsIf (Or.inl ⟨by kernel_rfl, fun _ => by kernel_rfl⟩)) trivial ?_
      refine wpAnyH_take (i := 6) (v := .slice a1 j cap1) rfl (by kernel_rfl) (by kernel_rfl) (by kernel_rfl) (fun _ _ _ h => h) (Yields.yieldsIf (Or.inl ⟨by kernel_rfl, fun _ => by go_simp⟩)) trivial ?_
      refine wpAnyH_take (i := 9) (v := .slice (some ⟨B, 0, none⟩) j j) rfl (by kernel_rfl) (by kernel_rfl) (by kernel_rfl) (fun _ _ _ h => h) (Yields.yieldsIf (Or.inl ⟨by kernel_rfl, fun _ => by kernel_rfl⟩)) trivial ?_
      refine wpAnyH_take (i := 11) (v := .int .i64 (j : Int)) rfl (by kernel_rfl) (by kernel_rfl) (by kernel_rfl) (fun _ _ _ h => h) (Yields.yieldsIf (Or.inl ⟨by kernel_rfl, fun _ => by kernel_rfl⟩)) trivial ?_
      refine wpAnyH_ready (rs := [3, 12]) (by kernel_rfl) (by simp) ?_
      refine AllReadyH.cons rfl (fun K2 hK2 => ?_) (AllReadyH.cons rfl (fun K2 hK2 => ?_) AllReadyH.nil)
      · go_simp
        refine Calls.mono (C0.out _ HB.out) ?_
        rintro e w4 ⟨rfl, d⟩
        refine hK2.out _ _ trivial (fun _ => ?_)
        clear hK2 K2
        have HB : Hid (Below w.heap.size w w4) := HB.out.trans (d.mono HB.out.size)
        have HR : Hid (w4.rowIs B 5 j (byteAt fun i => if i < j then x i ^^^ y i else 0)) := HR.out.of_block (d.block _ HR.out.lt)
        clear d
        refine wpAnyH_ready (rs := [7, 12]) (by kernel_rfl) (by simp) ?_
        refine AllReadyH.cons rfl (fun K2 hK2 => ?_) (AllReadyH.cons rfl (fun K2 hK2 => ?_) AllReadyH.nil)
        · go_simp
          refine Calls.mono (C1.out _ HB.out) ?_
          rintro e w5 ⟨rfl, d⟩
          refine hK2.out _ _ trivial (fun _ => ?_)
          clear hK2 K2
          have HB : Hid (Below w.heap.size w w5) := HB.out.trans (d.mono HB.out.size)
          have HR : Hid (w5.rowIs B 5 j (byteAt fun i => if i < j then x i ^^^ y i else 0)) := HR.out.of_block (d.block _ HR.out.lt)
          clear d
          refine wpAnyH_take (i := 8) (v := .int .u32 (X : Int)) rfl (by kernel_rfl) (by kernel_rfl) (by kernel_rfl) (fun _ _ _ h => h) (Yields.yieldsIf (Or.inl ⟨by kernel_rfl, fun _ => by go_simp⟩)) trivial ?_
          refine wpAnyH_ready (rs := [10, 12]) (by kernel_rfl) (by simp) ?_
          refine AllReadyH.cons rfl (fun K2 hK2 => ?_) (AllReadyH.cons rfl (fun K2 hK2 => ?_) AllReadyH.nil)
          · go_simp
            refine Calls.mono (C2.out _ HR.out) ?_
            rintro e w6 ⟨rfl, d⟩
            refine hK2.out _ _ trivial (fun _ => ?_)
            clear hK2 K2
            have HB : Hid (Below w.heap.size w w6) := HB.out.trans (d.mono HB.out.size)
            have HR : Hid (w6.rowIs B 5 j (byteAt fun i => if i < j then x i ^^^ y i else 0)) := HR.out.of_block (d.block _ HR.out.lt)
            clear d
            refine wpAnyH_ready (rs := [12]) (by kernel_rfl) (by simp) ?_
            refine AllReadyH.cons rfl (fun K2 hK2 => ?_) AllReadyH.nil
            go_simp
            have HZ : Hid (BytesAt (w6.alloc (.cells (madeCells #[.int .u8 0] j) 5)) (some ⟨w6.heap.size, 0, none⟩) j (fun _ => 0)) := made_zero _ _
            have HB : Hid (Below w.heap.size w (w6.alloc (.cells (madeCells #[.int .u8 0] j) 5))) := HB.out.alloc HB.out.size _
            have HR : Hid ((w6.alloc (.cells (madeCells #[.int .u8 0] j) 5)).rowIs B 5 j (byteAt fun i => if i < j then x i ^^^ y i else 0)) := HR.out.alloc _
            refine hK2.out _ _ trivial (fun _ => ?_)
            clear hK2 K2
            generalize w6.alloc (.cells (madeCells #[.int .u8 0] j) 5) = w7 at *
            generalize w6.heap.size = G at *
            refine wpAnyH_ready (rs := [13]) (by kernel_rfl) (by simp) ?_
            refine AllReadyH.cons rfl (fun K2 hK2 => ?_) AllReadyH.nil
            go_simp
            refine Calls.mono (C3.out _ _ HZ.out) ?_
            rintro e w8 ⟨rfl, d⟩
            refine hK2.out _ _ trivial (fun _ => ?_)
            clear hK2 K2
            have HB : Hid (Below w.heap.size w w8) := HB.out.trans (d.mono HB.out.size)
            have HR : Hid (w8.rowIs B 5 j (byteAt fun i => if i < j then x i ^^^ y i else 0)) := HR.out.of_block (d.block _ HR.out.lt)
            have HZ : Hid (BytesAt w8 (some ⟨G, 0, none⟩) j (fun _ => 0)) := HZ.out.grew d
            clear d
            refine wpAnyH_take (i := 14) (v := .int .u32 (X : Int)) rfl (by kernel_rfl) (by kernel_rfl) (by kernel_rfl) (fun _ _ _ h => h) (Yields.yieldsIf (Or.inl ⟨by kernel_rfl, fun _ => by go_simp⟩)) trivial ?_
            refine wpAnyH_take (i := 15) (v := .bool true) rfl (by kernel_rfl) (by kernel_rfl) (by kernel_rfl) (fun _ _ _ h => h) (Yields.yieldsIf (Or.inl ⟨by kernel_rfl, fun _ => by go_simp⟩)) trivial ?_
            refine wpAnyH_ready (rs := [16]) (by kernel_rfl) (by simp) ?_
            refine AllReadyH.cons rfl (fun K2 hK2 => ?_) AllReadyH.nil
            go_simp
            refine hK2.out _ _ trivial (fun _ => ?_)
            clear hK2 K2
            refine wpAnyH_done (by kernel_rfl) ?_ _
            clear C0 C1 C2 C3 HR hmk e8 e14 hs0 hs1
            go_wp2
            go_ret
            exact ⟨rfl, HB.out⟩
          · go_simp
            have HZ : Hid (BytesAt (w5.alloc (.cells (madeCells #[.int .u8 0] j) 5)) (some ⟨w5.heap.size, 0, none⟩) j (fun _ => 0)) := made_zero _ _
            have HB : Hid (Below w.heap.size w (w5.alloc (.cells (madeCells #[.int .u8 0] j) 5))) := HB.out.alloc HB.out.size _
            have HR : Hid ((w5.alloc (.cells (madeCells #[.int .u8 0] j) 5)).rowIs B 5 j (byteAt fun i => if i < j then x i ^^^ y i else 0)) := HR.out.alloc _
            refine hK2.out _ _ trivial (fun _ => ?_)
            clear hK2 K2
            generalize w5.alloc (.cells (madeCells #[.int .u8 0] j) 5) = w6 at *
            generalize w5.heap.size = G at *
            refine wpAnyH_ready (rs := [10]) (by kernel_rfl) (by simp) ?_
            refine AllReadyH.cons rfl (fun K2 hK2 => ?_) AllReadyH.nil
            go_simp
            refine Calls.mono (C2.out _ HR.out) ?_
            rintro e w7 ⟨rfl, d⟩
            refine hK2.out _ _ trivial (fun _ => ?_)
            clear hK2 K2
            have HB : Hid (Below w.heap.size w w7) := HB.out.trans (d.mono HB.out.size)
            have HR : Hid (w7.rowIs B 5 j (byteAt fun i => if i < j then x i ^^^ y i else 0)) := HR.out.of_block (d.block _ HR.out.lt)
            have HZ : Hid (BytesAt w7 (some ⟨G, 0, none⟩) j (fun _ => 0)) := HZ.out.grew d
            clear d
            refine wpAnyH_ready (rs := [13]) (by kernel_rfl) (by simp) ?_
            refine AllReadyH.cons rfl (fun K2 hK2 => ?_) AllReadyH.nil
            go_simp
            refine Calls.mono (C3.out _ _ HZ.out) ?_
            rintro e w8 ⟨rfl, d⟩
            refine hK2.out _ _ trivial (fun _ => ?_)
            clear hK2 K2
            have HB : Hid (Below w.heap.size w w8) := HB.out.trans (d.mono HB.out.size)
            have HR : Hid (w8.rowIs B 5 j (byteAt fun i => if i < j then x i ^^^ y i else 0)) := HR.out.of_block (d.block _ HR.out.lt)
            have HZ : Hid (BytesAt w8 (some ⟨G, 0, none⟩) j (fun _ => 0)) := HZ.out.grew d
            clear d
            refine wpAnyH_take (i := 14) (v := .int .u32 (X : Int)) rfl (by kernel_rfl) (by kernel_rfl) (by kernel_rfl) (fun _ _ _ h => h) (Yields.yieldsIf (Or.inl ⟨by kernel_rfl, fun _ => by go_simp⟩)) trivial ?_
            refine wpAnyH_take (i := 15) (v := .bool true) rfl (by kernel_rfl) (by kernel_rfl) (by kernel_rfl) (fun _ _ _ h => h) (Yields.yieldsIf (Or.inl ⟨by kernel_rfl, fun _ => by go_simp⟩)) trivial ?_
            refine wpAnyH_ready (rs := [16]) (by kernel_rfl) (by simp) ?_
            refine AllReadyH.cons rfl (fun K2 hK2 => ?_) AllReadyH.nil
            go_simp
            refine hK2.out _ _ trivial (fun _ => ?_)
            clear hK2 K2
            refine wpAnyH_done (by kernel_rfl) ?_ _
            clear C0 C1 C2 C3 HR hmk e8 e14 hs0 hs1
            go_wp2
            go_ret
            exact ⟨rfl, HB.out⟩
        · go_simp
          have HZ : Hid (BytesAt (w4.alloc (.cells (madeCells #[.int .u8 0] j) 5)) (some ⟨w4.heap.size, 0, none⟩) j (fun _ => 0)) := made_zero _ _
          have HB : Hid (Below w.heap.size w (w4.alloc (.cells (madeCells #[.int .u8 0] j) 5))) := HB.out.alloc HB.out.size _
          have HR : Hid ((w4.alloc (.cells (madeCells #[.int .u8 0] j) 5)).rowIs B 5 j (byteAt fun i => if i < j then x i ^^^ y i else 0)) := HR.out.alloc _
          refine hK2.out _ _ trivial (fun _ => ?_)
          clear hK2 K2
          generalize w4.alloc (.cells (madeCells #[.int .u8 0] j) 5) = w5 at *
          generalize w4.heap.size = G at *
          refine wpAnyH_ready (rs := [7]) (by kernel_rfl) (by simp) ?_
          refine AllReadyH.cons rfl (fun K2 hK2 => ?_) AllReadyH.nil
          go_simp
          refine Calls.mono (C1.out _ HB.out) ?_
          rintro e w6 ⟨rfl, d⟩
          refine hK2.out _ _ trivial (fun _ => ?_)
          clear hK2 K2
          have HB : Hid (Below w.heap.size w w6) := HB.out.trans (d.mono HB.out.size)
          have HR : Hid (w6.rowIs B 5 j (byteAt fun i => if i < j then x i ^^^ y i else 0)) := HR.out.of_block (d.block _ HR.out.lt)
          have HZ : Hid (BytesAt w6 (some ⟨G, 0, none⟩) j (fun _ => 0)) := HZ.out.grew d
          clear d
          refine wpAnyH_take (i := 8) (v := .int .u32 (X : Int)) rfl (by kernel_rfl) (by kernel_rfl) (by kernel_rfl) (fun _ _ _ h => h) (Yields.yieldsIf (Or.inl ⟨by kernel_rfl, fun _ => by go_simp⟩)) trivial ?_
          refine wpAnyH_ready (rs := [10]) (by kernel_rfl) (by simp) ?_
          refine AllReadyH.cons rfl (fun K2 hK2 => ?_) AllReadyH.nil
          go_simp
          refine Calls.mono (C2.out _ HR.out) ?_
          rintro e w7 ⟨rfl, d⟩
          refine hK2.out _ _ trivial (fun _ => ?_)
          clear hK2 K2
          have HB : Hid (Below w.heap.size w w7) := HB.out.trans (d.mono HB.out.size)
          have HR : Hid (w7.rowIs B 5 j (byteAt fun i => if i < j then x i ^^^ y i else 0)) := HR.out.of_block (d.block _ HR.out.lt)
          have HZ : Hid (BytesAt w7 (some ⟨G, 0, none⟩) j (fun _ => 0)) := HZ.out.grew d
          clear d
          refine wpAnyH_ready (rs := [13]) (by kernel_rfl) (by simp) ?_
          refine AllReadyH.cons rfl (fun K2 hK2 => ?_) AllReadyH.nil
          go_simp
          refine Calls.mono (C3.out _ _ HZ.out) ?_
          rintro e w8 ⟨rfl, d⟩
          refine hK2.out _ _ trivial (fun _ => ?_)
          clear hK2 K2
          have HB : Hid (Below w.heap.size w w8) := HB.out.trans (d.mono HB.out.size)
          have HR : Hid (w8.rowIs B 5 j (byteAt fun i => if i < j then x i ^^^ y i else 0)) := HR.out.of_block (d.block _ HR.out.lt)
          have HZ : Hid (BytesAt w8 (some ⟨G, 0, none⟩) j (fun _ => 0)) := HZ.out.grew d
          clear d
          refine wpAnyH_take (i := 14) (v := .int .u32 (X : Int)) rfl (by kernel_rfl) (by kernel_rfl) (by kernel_rfl) (fun _ _ _ h => h) (Yields.yieldsIf (Or.inl ⟨by kernel_rfl, fun _ => by go_simp⟩)) trivial ?_
          refine wpAnyH_take (i := 15) (v := .bool true) rfl (by kernel_rfl) (by kernel_rfl) (by kernel_rfl) (fun _ _ _ h => h) (Yields.yieldsIf (Or.inl ⟨by kernel_rfl, fun _ => by go_simp⟩)) trivial ?_
          refine wpAnyH_ready (rs := [16]) (by kernel_rfl) (by simp) ?_
          refine AllReadyH.cons rfl (fun K2 hK2 => ?_) AllReadyH.nil
          go_simp
          refine hK2.out _ _ trivial (fun _ => ?_)
          clear hK2 K2
          refine wpAnyH_done (by kernel_rfl) ?_ _
          clear C0 C1 C2 C3 HR hmk e8 e14 hs0 hs1
          go_wp2
          go_ret
          exact ⟨rfl, HB.out⟩
      · go_simp
        have HZ : Hid (BytesAt (w3.alloc (.cells (madeCells #[.int .u8 0] j) 5)) (some ⟨w3.heap.size, 0, none⟩) j (fun _ => 0)) := made_zero _ _
        have HB : Hid (Below w.heap.size w (w3.alloc (.cells (madeCells #[.int .u8 0] j) 5))) := HB.out.alloc HB.out.size _
        have HR : Hid ((w3.alloc (.cells (madeCells #[.int .u8 0] j) 5)).rowIs B 5 j (byteAt fun i => if i < j then x i ^^^ y i else 0)) := HR.out.alloc _
        refine hK2.out _ _ trivial (fun _ => ?_)
        clear hK2 K2
        generalize w3.alloc (.cells (madeCells #[.int .u8 0] j) 5) = w4 at *
        generalize w3.heap.size = G at *
        refine wpAnyH_ready (rs := [3]) (by kernel_rfl) (by simp) ?_
        refine AllReadyH.cons rfl (fun K2 hK2 => ?_) AllReadyH.nil
        go_simp
        refine Calls.mono (C0.out _ HB.out) ?_
        rintro e w5 ⟨rfl, d⟩
        refine hK2.out _ _ trivial (fun _ => ?_)
        clear hK2 K2
        have HB : Hid (Below w.heap.size w w5) := HB.out.trans (d.mono HB.out.size)
        have HR : Hid (w5.rowIs B 5 j (byteAt fun i => if i < j then x i ^^^ y i else 0)) := HR.out.of_block (d.block _ HR.out.lt)
        have HZ : Hid (BytesAt w5 (some ⟨G, 0, none⟩) j (fun _ => 0)) := HZ.out.grew d
        clear d
        refine wpAnyH_ready (rs := [7]) (by kernel_rfl) (by simp) ?_
        refine AllReadyH.cons rfl (fun K2 hK2 => ?_) AllReadyH.nil
        go_simp
        refine Calls.mono (C1.out _ HB.out) ?_
        rintro e w6 ⟨rfl, d⟩
        refine hK2.out _ _ trivial (fun _ => ?_)
        clear hK2 K2
        have HB : Hid (Below w.heap.size w w6) := HB.out.trans (d.mono HB.out.size)
        have HR : Hid (w6.rowIs B 5 j (byteAt fun i => if i < j then x i ^^^ y i else 0)) := HR.out.of_block (d.block _ HR.out.lt)
        have HZ : Hid (BytesAt w6 (some ⟨G, 0, none⟩) j (fun _ => 0)) := HZ.out.grew d
        clear d
        refine wpAnyH_take (i := 8) (v := .int .u32 (X : Int)) rfl (by kernel_rfl) (by kernel_rfl) (by kernel_rfl) (fun _ _ _ h => h) (Yields.yieldsIf (Or.inl ⟨by kernel_rfl, fun _ => by go_simp⟩)) trivial ?_
        refine wpAnyH_ready (rs := [10]) (by kernel_rfl) (by simp) ?_
        refine AllReadyH.cons rfl (fun K2 hK2 => ?_) AllReadyH.nil
        go_simp
        refine Calls.mono (C2.out _ HR.out) ?_
        rintro e w7 ⟨rfl, d⟩
        refine hK2.out _ _ trivial (fun _ => ?_)
        clear hK2 K2
        have HB : Hid (Below w.heap.size w w7) := HB.out.trans (d.mono HB.out.size)
        have HR : Hid (w7.rowIs B 5 j (byteAt fun i => if i < j then x i ^^^ y i else 0)) := HR.out.of_block (d.block _ HR.out.lt)
        have HZ : Hid (BytesAt w7 (some ⟨G, 0, none⟩) j (fun _ => 0)) := HZ.out.grew d
        clear d
        refine wpAnyH_ready (rs := [13]) (by kernel_rfl) (by simp) ?_
        refine AllReadyH.cons rfl (fun K2 hK2 => ?_) AllReadyH.nil
        go_simp
        refine Calls.mono (C3.out _ _ HZ.out) ?_
        rintro e w8 ⟨rfl, d⟩
        refine hK2.out _ _ trivial (fun _ => ?_)
        clear hK2 K2
        have HB : Hid (Below w.heap.size w w8) := HB.out.trans (d.mono HB.out.size)
        have HR : Hid (w8.rowIs B 5 j (byteAt fun i => if i < j then x i ^^^ y i else 0)) := HR.out.of_block (d.block _ HR.out.lt)
        have HZ : Hid (BytesAt w8 (some ⟨G, 0, none⟩) j (fun _ => 0)) := HZ.out.grew d
        clear d
        refine wpAnyH_take (i := 14) (v := .int .u32 (X : Int)) rfl (by kernel_rfl) (by kernel_rfl) (by kernel_rfl) (fun _ _ _ h => h) (Yields.yieldsIf (Or.inl ⟨by kernel_rfl, fun _ => by go_simp⟩)) trivial ?_
        refine wpAnyH_take (i := 15) (v := .bool true) rfl (by kernel_rfl) (by kernel_rfl) (by kernel_rfl) (fun _ _ _ h => h) (Yields.yieldsIf (Or.inl ⟨by kernel_rfl, fun _ => by go_simp⟩)) trivial ?_
        refine wpAnyH_ready (rs := [16]) (by kernel_rfl) (by simp) ?_
        refine AllReadyH.cons rfl (fun K2 hK2 => ?_) AllReadyH.nil
        go_simp
        refine hK2.out _ _ trivial (fun _ => ?_)
        clear hK2 K2
        refine wpAnyH_done (by kernel_rfl) ?_ _
        clear C0 C1 C2 C3 HR hmk e8 e14 hs0 hs1
        go_wp2
        go_ret
        exact ⟨rfl, HB.out⟩

theorem walk (a0 : Option Addr) (len0 cap0 : Nat) (z0 : List Int) (a1 : Option Addr) (len1 cap1 : Nat) (z1 : List Int) (w : World) (w0 : IsRow .u8 w a0 len0 cap0 z0) (w1 : IsRow .u8 w a1 len1 cap1 z1) :
    Calls Try.prog 5 #[.slice a0 len0 cap0, .slice a1 len1 cap1] w fun e w' => e = .returned (.bool true) ∧ Below w.heap.size w w' := by
  have r0 : Came w a0 len0 cap0 z0 := w0
  have r1 : Came w a1 len1 cap1 z1 := w1
  obtain ⟨h0, k0, m0⟩ := r0.bytes
  obtain ⟨h1, k1, m1⟩ := r1.bytes
  exact walk0 a0 len0 cap0 _ a1 len1 cap1 _ w h0 k0 m0 h1 k1 m1

/-! ### THE ROW's STEP: WRITTEN OUT: LEAVE IT -/
set_option maxRecDepth 100000 in
theorem lifted (os : Os) (started : os.Started) (H : Type) (enc : TypeId × Value → H) :
    ReturnsInHanded {} Try.checked os 5 .any (Rows.sumSumsSpec.pre6 enc Try.prog Try.f5 Rows.sumSumsRow.domain false) (Rows.sumSumsSpec.post enc Try.prog Try.f5 false true false false) := by
  refine returnsInHanded_of_change (C := Try.checked) own started (by kernel_rfl) Try.func5
    (ChangeSpec.witness6 (enc := enc) (C := Try.checked) false ⟨#[], #[.slice none 0 0, .slice none 0 0], []⟩ 8 (by kernel_rfl) (by kernel_rfl) (by kernel_rfl) (by kernel_rfl)) ?_
  intro W base args ds gs before hval0 hW hcnd _
  have hval : ∀ (j : Nat) t v, Try.f5.params[j]? = some t → args[j]? = some v → Value.okWide Try.prog W .any base t v := hval0
  have hW' := hW
  obtain ⟨p, q, hA0, hV, rfl, hfz, hnd⟩ := hW
  have hA : DataW.TrodAll enc Try.prog W 0 (fun _ => true) true Try.f5.params.toList args.toList ds p := hA0
  rw [Try.params5] at hA hval
  obtain ⟨v0, vs0, d0, ds0, p0, q0, hargs, rfl, rfl, h0, r0⟩ := trodAll_cons hA
  obtain ⟨v1, vs1, d1, ds1, p1, q1, rfl, rfl, rfl, h1, r1⟩ := trodAll_cons r0
  obtain ⟨rfl, rfl, rfl⟩ := trodAll_nil r1
  obtain rfl : args = #[v0, v1] := by cases args; simp_all
  obtain ⟨rfl, rfl⟩ := trodVars_none hV
  obtain ⟨a0, len0, cap0, rfl⟩ := okWide_slice Try.underlying22 (hval 0 22 v0 rfl rfl)
  have k0 := h0
  have lt0 : ∀ x ∈ p0, x.block < W.heap.size := by obtain ⟨m, hm⟩ := k0; exact DataW.trod_lt m _ _ _ hm
  obtain ⟨z0, w0⟩ : ∃ zs, IsRow .u8 W a0 len0 cap0 zs := by
    obtain ⟨fuel, hf⟩ := h0
    rcases open_ints Try.underlying22 Try.underlying5 (by kernel_rfl) hf with ⟨hcs, _⟩ | ⟨x, l, c, zs, hcs, _, hl, hm, hz, _, hcell, hwz⟩
    · simp [Value.cells] at hcs
      obtain ⟨rfl, rfl, rfl⟩ := hcs
      exact ⟨[], .inl ⟨rfl, rfl, rfl, rfl⟩⟩
    · simp [Value.cells] at hcs
      obtain ⟨rfl, rfl, rfl⟩ := hcs
      exact ⟨zs, .inr ⟨_, rfl, hl, hm, by simpa using hz, hcell, hwz⟩⟩
  obtain ⟨a1, len1, cap1, rfl⟩ := okWide_slice Try.underlying22 (hval 1 22 v1 rfl rfl)
  have k1 := h1
  have lt1 : ∀ x ∈ p1, x.block < W.heap.size := by obtain ⟨m, hm⟩ := k1; exact DataW.trod_lt m _ _ _ hm
  obtain ⟨z1, w1⟩ : ∃ zs, IsRow .u8 W a1 len1 cap1 zs := by
    obtain ⟨fuel, hf⟩ := h1
    rcases open_ints Try.underlying22 Try.underlying5 (by kernel_rfl) hf with ⟨hcs, _⟩ | ⟨x, l, c, zs, hcs, _, hl, hm, hz, _, hcell, hwz⟩
    · simp [Value.cells] at hcs
      obtain ⟨rfl, rfl, rfl⟩ := hcs
      exact ⟨[], .inl ⟨rfl, rfl, rfl, rfl⟩⟩
    · simp [Value.cells] at hcs
      obtain ⟨rfl, rfl, rfl⟩ := hcs
      exact ⟨zs, .inr ⟨_, rfl, hl, hm, by simpa using hz, hcell, hwz⟩⟩
  clear hA0 hval0
  refine (walk a0 len0 cap0 z0 a1 len1 cap1 z1 W w0 w1).mono fun e W' ⟨he, bel⟩ => ?_
  subst he
  exact ⟨_, rfl, _, _, _, [], _, [], hW', trodAll_mk1 (shut_bool Try.underlying4 _), (trodAll_cons_mk (Below.trod laidOut (by kernel_rfl) (of_decide_eq_true (by kernel_rfl)) k0 bel lt0) (trodAll_cons_mk (Below.trod laidOut (by kernel_rfl) (of_decide_eq_true (by kernel_rfl)) k1 bel lt1) trodAll_mk0)), rfl, bel.frame _, fun h => by cases h⟩

theorem over : Rows.sumSumsRow.holds Try.pinned (OpenSpec.ofChange Rows.sumSumsSpec) :=
  OpenClaim.holds_of_wide 5 Try.f5 rfl rfl rfl rfl rfl rfl rfl ⟨rfl, rfl, rfl, rfl, rfl⟩ rfl rfl rfl rfl rfl (by kernel_rfl) Try.func5 (by kernel_rfl)
    (of_decide_eq_true (by kernel_rfl)) (by unfold Func.isWrapper; first | (rw [if_pos (by decide +kernel)]; kernel_rfl) | (rw [if_neg (by decide +kernel)]; exact ⟨rfl, rfl⟩))
    (fun os started H enc _ => lifted os started H enc)

theorem proved : Rows.SumSumsSaid := over
end Go.Proofs.Ytehednmbapgbeaa.sumSums
namespace Go.Proofs.Ytehednmbapgbeaa
theorem sumSums_holds : Rows.SumSumsSaid := sumSums.proved
#print axioms sumSums_holds
end Go.Proofs.Ytehednmbapgbeaa

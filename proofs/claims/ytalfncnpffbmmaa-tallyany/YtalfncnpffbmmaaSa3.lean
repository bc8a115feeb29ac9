/-
  The library's Sort of a row of uint64: the pivot of 13 to 49 of them, and whether they rise already.
-/
import Derived.Test.YtalfncnpffbmmaaSa2
namespace Go.Proofs.Ytalfncnpffbmmaa
open Go.RowKit Go.Deep

def hintN : Sort.Hint → Int
  | .unknown => 0
  | .increasing => 1
  | .decreasing => 2
theorem med_in (d : Array Int) (i j k s n : Nat) (hi : i < n) (hj : j < n) (hk : k < n) : (Sort.median Sort.ltInt d i j k s).1 < n ∧ (Sort.median Sort.ltInt d i j k s).2 ≤ s + 3 := by
  obtain ⟨i1, j1, s1, e1⟩ : ∃ i1 j1 s1, Sort.order2 Sort.ltInt d i j s = (i1, j1, s1) := ⟨_, _, _, rfl⟩
  obtain ⟨j2, k2, s2, e2⟩ : ∃ j2 k2 s2, Sort.order2 Sort.ltInt d j1 k s1 = (j2, k2, s2) := ⟨_, _, _, rfl⟩
  obtain ⟨i3, j3, s3, e3⟩ : ∃ i3 j3 s3, Sort.order2 Sort.ltInt d i1 j2 s2 = (i3, j3, s3) := ⟨_, _, _, rfl⟩
  obtain ⟨n1, n2, n3⟩ := ord_in d i j s n hi hj
  rw [e1] at n1 n2 n3
  obtain ⟨n4, n5, n6⟩ := ord_in d j1 k s1 n n2 hk
  rw [e2] at n4 n5 n6
  obtain ⟨n7, n8, n9⟩ := ord_in d i1 j2 s2 n n1 n4
  rw [e3] at n7 n8 n9
  simp only at n1 n2 n3 n4 n5 n6 n7 n8 n9
  unfold Sort.median
  simp only [e1, e2, e3]
  exact ⟨n8, by omega⟩
/-- What the pivot of 13 to 49 is. -/
theorem piv_eq (d : Array Int) (a z : Nat) (h1 : 12 < z - a) (h2 : z - a < 50) :
    Sort.choosePivot Sort.ltInt d a z = ((Sort.median Sort.ltInt d (a + (z - a) / 4 * 1) (a + (z - a) / 4 * 2) (a + (z - a) / 4 * 3) 0).1, if (Sort.median Sort.ltInt d (a + (z - a) / 4 * 1) (a + (z - a) / 4 * 2) (a + (z - a) / 4 * 3) 0).2 = 0 then .increasing else .unknown) := by
  have := (med_in d (a + (z - a) / 4 * 1) (a + (z - a) / 4 * 2) (a + (z - a) / 4 * 3) 0 z (by omega) (by omega) (by omega)).2
  unfold Sort.choosePivot
  simp only [if_pos (show z - a ≥ 8 by omega), if_neg (show ¬ z - a ≥ 50 by omega)]
  congr 1
  split
  · rfl
  · rw [if_neg (by omega)]
set_option maxRecDepth 100000 in
set_option maxHeartbeats 1000000 in
theorem spiv_any (b o m c n a z : Nat) (d : Array Int) (w : World) (h1 : 12 < z - a) (h2 : z - a < 50) (hz : z ≤ n) (hn : n ≤ 1000000) (HD : Hid (d.size = n)) (HX : Hid (Srow w b o m d)) :
    Calls Try.prog 31 #[.slice (some ⟨b, o, none⟩) n c, .int .i64 (a : Int), .int .i64 (z : Int)] w fun e w' =>
      e = .returned (.tuple #[.int .i64 ((Sort.choosePivot Sort.ltInt d a z).1 : Nat), .int .i64 (hintN (Sort.choosePivot Sort.ltInt d a z).2)]) ∧ Below w.heap.size w w' := by
  obtain ⟨l, hl⟩ : ∃ l, l = z - a := ⟨_, rfl⟩
  obtain ⟨q, hq⟩ : ∃ q, q = (z - a) / 4 := ⟨_, rfl⟩
  obtain ⟨i, hi⟩ : ∃ i, i = a + (z - a) / 4 * 1 := ⟨_, rfl⟩
  obtain ⟨j, hj⟩ : ∃ j, j = a + (z - a) / 4 * 2 := ⟨_, rfl⟩
  obtain ⟨k, hk⟩ : ∃ k, k = a + (z - a) / 4 * 3 := ⟨_, rfl⟩
  obtain ⟨p, s, hs⟩ : ∃ p s, Sort.median Sort.ltInt d i j k 0 = (p, s) := ⟨_, _, rfl⟩
  obtain ⟨t, ht⟩ : ∃ t : Sort.Hint, t = if s = 0 then .increasing else .unknown := ⟨_, rfl⟩
  have T1 : Hid (s = 0 → t = .increasing) := fun h => by rw [ht, if_pos h]
  have T2 : Hid (¬ s = 0 → t = .unknown) := fun h => by rw [ht, if_neg h]
  have P : Hid (Sort.choosePivot Sort.ltInt d a z = (p, t)) := by
    show Sort.choosePivot Sort.ltInt d a z = _
    rw [piv_eq d a z h1 h2, ← hi, ← hj, ← hk, hs, ← ht]
  clear ht
  have hs3 := (med_in d i j k 0 n (by omega) (by omega) (by omega)).2
  rw [hs] at hs3
  simp only at hs3
  rw [P.out]
  have HM : Hid (Sort.median Sort.ltInt d i j k 0 = (p, s)) := hs
  obtain ⟨y, ey⟩ : ∃ y, w.alloc (.cells #[.int .i64 0] 3) = y := ⟨_, rfl⟩
  have B0 : Below w.heap.size w y := ey ▸ (Below.refl _ _).alloc (Nat.le_refl _) _
  have HB : Hid (Below w.heap.size w y) := B0
  have HX0 : Hid (Srow y b o m d) := HX.out.grew B0
  have HC : Hid (CntAt y w.heap.size 0) := ⟨by rw [← ey, World.cell?_alloc_at _ _ _ _ rfl]; rfl, by rw [← ey]; exact frozen_of_row _ w.heap.size 0 _ 3 (heap_alloc_new w _)⟩
  have hR : b ≠ w.heap.size := by have := HX.out.lt; omega
  have HR : Hid (b ≠ w.heap.size) := hR
  have m1 : i < n := by omega
  have m2 : j < n := by omega
  have m3 : k < n := by omega
  have e0 : (z : Int) - (a : Int) = (l : Int) := by omega
  have q4 : (l : Int).tdiv 4 = (q : Int) := by
    rw [Int.tdiv_eq_ediv_of_nonneg (by omega)]
    omega
  have q5 : (l : Int) / 4 = (q : Int) := by omega
  have e1 : (a : Int) + (q : Int) = (i : Int) := by omega
  have e2 : (a : Int) + (q : Int) * 2 = (j : Int) := by omega
  have e3 : (a : Int) + (q : Int) * 3 = (k : Int) := by omega
  have i0 : q ≤ 1000 := by omega
  have i1 : (8 : Int) ≤ (l : Int) := by omega
  have i2 : decide ((50 : Int) ≤ (l : Int)) = false := by simp; omega
  have i3 : a ≤ 1000000 := by omega
  have i4 : z ≤ 1000000 := by omega
  clear B0 HX hR hs hi hj hk hq hl P h1 h2
  go_enter Try.func31, Try.ntmps31
  go_wp2_with fail
  refine (smed_any b o m c n i j k 0 w.heap.size d y m1 m2 m3 hn (by omega) HR.out HD HX0 HC).mono ?_
  rintro e w4 ⟨rfl, q1, k1⟩
  rw [HM.out] at q1 ⊢
  have c1 : w4.cell? ⟨w.heap.size, 0, none⟩ = some (.int .i64 (s : Int)) := q1.cell
  have HK : Hid (Below w.heap.size w w4) := HB.out.trans (k1.below (Nat.le_refl _) HB.out.size)
  clear q1 k1 HX0 HC HB
  by_cases h0 : s = 0
  · have T3 : Hid (t = .increasing) := T1.out h0
    clear T1 T2
    subst h0
    go_wp2
    go_ret2
    exact ⟨by rw [T3.out]; rfl, HK.out⟩
  · have T3 : Hid (t = .unknown) := T2.out h0
    have j1 : ((s : Int) == 0) = false := by simp; omega
    have j2 : ((s : Int) == 12) = false := by simp; omega
    clear T1 T2
    go_wp2
    go_ret2
    exact ⟨by rw [T3.out]; rfl, HK.out⟩
theorem part_eq (d : Array Int) (a z : Nat) (h2 : z - a < 50) : Sort.partialInsertionSort Sort.ltInt d a z = (d, decide (Sort.scanSorted Sort.ltInt d z (a + 1) = z)) := by
  unfold Sort.partialInsertionSort
  rw [Sort.partialIns]
  by_cases h : Sort.scanSorted Sort.ltInt d z (a + 1) = z
  · simp [h]
  · simp [h, h2]
set_option maxRecDepth 100000 in
set_option maxHeartbeats 1000000 in
theorem spar_any (b o m c n a z : Nat) (d : Array Int) (w : World) (h1 : a < z) (h2 : z - a < 50) (hz : z ≤ n) (hn : n ≤ 1000000) (HD : Hid (d.size = n)) (HX : Hid (Srow w b o m d)) :
    Calls Try.prog 33 #[.slice (some ⟨b, o, none⟩) n c, .int .i64 (a : Int), .int .i64 (z : Int)] w fun e w' => e = .returned (.bool (Sort.partialInsertionSort Sort.ltInt d a z).2) ∧ Same w w' := by
  have HP : Hid (Sort.partialInsertionSort Sort.ltInt d a z = (d, decide (Sort.scanSorted Sort.ltInt d z (a + 1) = z))) := part_eq d a z h2
  rw [HP.out]
  clear HP
  go_enter Try.func33, Try.ntmps33
  go_wp2_with fail
  go_loopw [7, 8] (fun i j wr => i = .int .i64 ((a : Int) + 1) ∧ j = .int .i64 0 ∧ Hid (Same w wr)) (fun _ _ _ => 0)
  case atStart => exact ⟨rfl, rfl, Same.refl _⟩
  case round =>
    obtain ⟨rfl, rfl, hs0⟩ := hrel
    go_wp2_with fail
    generalize wr = wo at *
    go_loopw [7] (fun i wr => ∃ k : Nat, i = .int .i64 k ∧ a + 1 ≤ k ∧ k ≤ z ∧ Hid (Same w wr) ∧ Hid (Sort.scanSorted Sort.ltInt d z k = Sort.scanSorted Sort.ltInt d z (a + 1))) (fun i _ => n - (intOf i).toNat)
    case atStart => exact ⟨a + 1, by go_num, Nat.le_refl _, h1, hs0, rfl⟩
    case round =>
      obtain ⟨k, rfl, g1, g2, hs, ho⟩ := hrel
      by_cases hk : k < z
      · obtain ⟨p, rfl⟩ : ∃ p, k = p + 1 := ⟨k - 1, by omega⟩
        obtain ⟨x, hx⟩ : ∃ x, x = d[p + 1]! := ⟨_, rfl⟩
        obtain ⟨y, hy⟩ : ∃ y, y = d[p]! := ⟨_, rfl⟩
        have s2 := HD.out
        have c1 : wr.cell? ⟨b, o + (p + 1), none⟩ = some (.int .u64 x) := (hs.out.cell _).trans (hx ▸ HX.out.cell (p + 1) (by omega))
        have c2 : wr.cell? ⟨b, o + p, none⟩ = some (.int .u64 y) := (hs.out.cell _).trans (hy ▸ HX.out.cell p (by omega))
        have HX1 : Hid (x = d[p + 1]!) := hx
        have HY1 : Hid (y = d[p]!) := hy
        obtain ⟨P, hP⟩ : ∃ P, P = p + 1 := ⟨_, rfl⟩
        have HP : Hid (P = p + 1) := hP
        rw [← hP] at c1
        have e2 : (P : Int) - 1 = (p : Int) := by omega
        have e3 : ((p + 1 : Nat) : Int) = (P : Int) := by omega
        have i2 : (p : Int) < (n : Int) := by omega
        have i3 : (P : Int) < (n : Int) := by omega
        have i4 : (P : Int) < (z : Int) := by omega
        rw [e3]
        clear hx hy s2 hP e3
        by_cases hl : x < y
        · have l1 : decide (x < y) = true := by simpa using hl
          have N1 : Hid (Sort.scanSorted Sort.ltInt d z (a + 1) ≠ z) := by
            show Sort.scanSorted Sort.ltInt d z (a + 1) ≠ z
            rw [← ho.out, sorted_stop d z (p + 1) (fun _ => by rw [Nat.add_sub_cancel, ← HX1.out, ← HY1.out]; exact hl)]
            omega
          have i5 : ((P : Int) == (z : Int)) = false := by simp; omega
          have i6 : (z : Int) - (a : Int) < 50 := by omega
          go_wp2_with fail
          go_quiet ((go_at_call 26; exact Calls.quiet_of_same (sless_any _ _ _)))
          go_wp2
          go_ret
          refine ⟨?_, hs.out.trans ⟨_, rfl⟩⟩
          show Ending.returned (.bool false) = .returned (.bool (decide _))
          rw [decide_eq_false N1.out]
        · have l1 : decide (x < y) = false := by simpa using hl
          go_wp2_with fail
          go_quiet ((go_at_call 26; exact Calls.quiet_of_same (sless_any _ _ _)))
          go_wp2_with fail
          go_roundw
          case rel =>
            obtain rfl := HP.out
            exact ⟨p + 1 + 1, by go_num, by omega, by omega, hs.out.trans ⟨_, rfl⟩, (sorted_go d z (p + 1) hk (by rw [Nat.add_sub_cancel, ← HX1.out, ← HY1.out]; omega)).symm.trans ho.out⟩
          case measure => simp [intOf]; omega
      · obtain rfl : k = z := by omega
        have N1 : Hid (Sort.scanSorted Sort.ltInt d k (a + 1) = k) := by
          show Sort.scanSorted Sort.ltInt d k (a + 1) = k
          rw [← ho.out, sorted_stop d k k (fun h => absurd h (by omega))]
        have i1 : decide ((k : Int) < (k : Int)) = false := by simp
        have i2 : ((k : Int) == (k : Int)) = true := by simp
        go_wp2_with fail
        go_quiet ((go_at_call 26; exact Calls.quiet_of_same (sless_any _ _ _)))
        go_wp2
        go_ret
        refine ⟨?_, hs.out.trans ⟨_, rfl⟩⟩
        show Ending.returned (.bool true) = .returned (.bool (decide _))
        rw [decide_eq_true N1.out]
end Go.Proofs.Ytalfncnpffbmmaa

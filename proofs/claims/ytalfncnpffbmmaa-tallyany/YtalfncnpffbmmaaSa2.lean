/-
  The library's Sort of a row of uint64: the pivot of 13 to 49 of them, and whether they rise already.
-/
import Derived.Test.YtalfncnpffbmmaaSa1
namespace Go.Proofs.Ytalfncnpffbmmaa
open Go.RowKit Go.Deep

/-- A variable that counts. -/
structure CntAt (w : World) (R s : Nat) : Prop where
  cell : w.cell? ⟨R, 0, none⟩ = some (.int .i64 (s : Int))
  thaw : w.frozen? ⟨R, 0, none⟩ = false
theorem CntAt.same {w w' : World} {R s : Nat} (h : CntAt w R s) (q : Same w w') : CntAt w' R s := by
  obtain ⟨n, rfl⟩ := q
  exact ⟨h.cell, h.thaw⟩
theorem CntAt.set {w : World} {R s : Nat} (h : CntAt w R s) (t : Nat) : CntAt (w.setCell ⟨R, 0, none⟩ (.int .i64 (t : Int))) R t :=
  ⟨by rw [World.cell?_setCell_same _ _ _ h.cell], by have := h.thaw; simpa using this⟩
set_option maxRecDepth 100000 in
set_option maxHeartbeats 1000000 in
theorem sord_any (b o m c n i j s R : Nat) (d : Array Int) (w : World) (hi : i < n) (hj : j < n) (_hn : n ≤ 1000000) (hs : s ≤ 1000) (HD : Hid (d.size = n)) (HX : Hid (Srow w b o m d)) (HC : Hid (CntAt w R s)) :
    Calls Try.prog 44 #[.slice (some ⟨b, o, none⟩) n c, .int .i64 (i : Int), .int .i64 (j : Int), .pointer (some ⟨R, 0, none⟩)] w fun e w' =>
      e = .returned (.tuple #[.int .i64 ((Sort.order2 Sort.ltInt d i j s).1 : Nat), .int .i64 ((Sort.order2 Sort.ltInt d i j s).2.1 : Nat)]) ∧ CntAt w' R (Sort.order2 Sort.ltInt d i j s).2.2 ∧ Kept R w w' := by
  obtain ⟨x, hx⟩ : ∃ x, x = d[i]! := ⟨_, rfl⟩
  obtain ⟨y, hy⟩ : ∃ y, y = d[j]! := ⟨_, rfl⟩
  have s2 := HD.out
  have c1 : w.cell? ⟨b, o + i, none⟩ = some (.int .u64 x) := hx ▸ HX.out.cell i (by omega)
  have c2 : w.cell? ⟨b, o + j, none⟩ = some (.int .u64 y) := hy ▸ HX.out.cell j (by omega)
  have c3 := HC.out.cell
  have f3 := HC.out.thaw
  have i1 : (i : Int) < (n : Int) := by omega
  have i2 : (j : Int) < (n : Int) := by omega
  by_cases hl : y < x
  · have l1 : decide (y < x) = true := by simpa using hl
    have R1 : Hid (Sort.order2 Sort.ltInt d i j s = (j, i, s + 1)) := by
      show Sort.order2 Sort.ltInt d i j s = _
      rw [Sort.order2, if_pos (by simp [Sort.ltInt, ← hx, ← hy, hl])]
    rw [R1.out]
    clear hx hy s2
    go_enter Try.func44, Try.ntmps44
    go_wp2_with fail
    go_quiet ((go_at_call 26; exact Calls.quiet_of_same (sless_any _ _ _)))
    go_wp2
    go_ret2
    exact ⟨rfl, (HC.out.same ⟨_, rfl⟩).set (s + 1), (Kept.of_same ⟨_, rfl⟩).trans (Kept.set _ _ _)⟩
  · have l1 : decide (y < x) = false := by simpa using hl
    have R1 : Hid (Sort.order2 Sort.ltInt d i j s = (i, j, s)) := by
      show Sort.order2 Sort.ltInt d i j s = _
      rw [Sort.order2, if_neg (by simp [Sort.ltInt, ← hx, ← hy]; omega)]
    rw [R1.out]
    clear hx hy s2
    go_enter Try.func44, Try.ntmps44
    go_wp2_with fail
    go_quiet ((go_at_call 26; exact Calls.quiet_of_same (sless_any _ _ _)))
    go_wp2
    go_ret2
    exact ⟨rfl, HC.out.same ⟨_, rfl⟩, Kept.of_same ⟨_, rfl⟩⟩
theorem ord_in (d : Array Int) (i j s n : Nat) (hi : i < n) (hj : j < n) : (Sort.order2 Sort.ltInt d i j s).1 < n ∧ (Sort.order2 Sort.ltInt d i j s).2.1 < n ∧ (Sort.order2 Sort.ltInt d i j s).2.2 ≤ s + 1 := by
  unfold Sort.order2
  split
  · exact ⟨hj, hi, Nat.le_refl _⟩
  · exact ⟨hi, hj, Nat.le_succ _⟩
set_option maxRecDepth 100000 in
set_option maxHeartbeats 1000000 in
theorem smed_any (b o m c n i j k s R : Nat) (d : Array Int) (w : World) (hi : i < n) (hj : j < n) (hk : k < n) (hn : n ≤ 1000000) (hs : s ≤ 100) (hR : b ≠ R) (HD : Hid (d.size = n)) (HX : Hid (Srow w b o m d)) (HC : Hid (CntAt w R s)) :
    Calls Try.prog 43 #[.slice (some ⟨b, o, none⟩) n c, .int .i64 (i : Int), .int .i64 (j : Int), .int .i64 (k : Int), .pointer (some ⟨R, 0, none⟩)] w fun e w' =>
      e = .returned (.int .i64 ((Sort.median Sort.ltInt d i j k s).1 : Nat)) ∧ CntAt w' R (Sort.median Sort.ltInt d i j k s).2 ∧ Kept R w w' := by
  have HR : Hid (b ≠ R) := hR
  clear hR
  obtain ⟨i1, j1, s1, e1⟩ : ∃ i1 j1 s1, Sort.order2 Sort.ltInt d i j s = (i1, j1, s1) := ⟨_, _, _, rfl⟩
  obtain ⟨j2, k2, s2, e2⟩ : ∃ j2 k2 s2, Sort.order2 Sort.ltInt d j1 k s1 = (j2, k2, s2) := ⟨_, _, _, rfl⟩
  obtain ⟨i3, j3, s3, e3⟩ : ∃ i3 j3 s3, Sort.order2 Sort.ltInt d i1 j2 s2 = (i3, j3, s3) := ⟨_, _, _, rfl⟩
  have M : Hid (Sort.median Sort.ltInt d i j k s = (j3, s3)) := by
    show Sort.median Sort.ltInt d i j k s = _
    unfold Sort.median
    simp only [e1, e2, e3]
  obtain ⟨n1, n2, n3⟩ := ord_in d i j s n hi hj
  rw [e1] at n1 n2 n3
  obtain ⟨n4, n5, n6⟩ := ord_in d j1 k s1 n n2 hk
  rw [e2] at n4 n5 n6
  simp only at n1 n2 n3 n4 n5 n6
  have E1 : Hid (Sort.order2 Sort.ltInt d i j s = (i1, j1, s1)) := e1
  have E2 : Hid (Sort.order2 Sort.ltInt d j1 k s1 = (j2, k2, s2)) := e2
  have E3 : Hid (Sort.order2 Sort.ltInt d i1 j2 s2 = (i3, j3, s3)) := e3
  rw [M.out]
  clear e1 e2 e3
  go_enter Try.func43, Try.ntmps43
  go_wp2_with fail
  refine (sord_any b o m c n i j s R d w hi hj hn (by omega) HD HX HC).mono ?_
  rintro e w1 ⟨rfl, q1, k1⟩
  rw [E1.out] at q1 ⊢
  have Q1 : Hid (CntAt w1 R s1) := q1
  have HX1 : Hid (Srow w1 b o m d) := HX.out.kept k1 HR.out
  have K1 : Hid (Kept R w w1) := k1
  clear q1 k1
  go_wp2_with fail
  refine (sord_any b o m c n j1 k s1 R d w1 n2 hk hn (by omega) HD HX1 Q1).mono ?_
  rintro e w2 ⟨rfl, q2, k2'⟩
  rw [E2.out] at q2 ⊢
  have Q2 : Hid (CntAt w2 R s2) := q2
  have HX2 : Hid (Srow w2 b o m d) := HX1.out.kept k2' HR.out
  have K2 : Hid (Kept R w w2) := K1.out.trans k2'
  clear q2 k2'
  go_wp2_with fail
  refine (sord_any b o m c n i1 j2 s2 R d w2 n1 n4 hn (by omega) HD HX2 Q2).mono ?_
  rintro e w3 ⟨rfl, q3, k3⟩
  rw [E3.out] at q3 ⊢
  have Q3 : Hid (CntAt w3 R s3) := q3
  have K3 : Hid (Kept R w w3) := K2.out.trans k3
  clear q3 k3
  go_wp2
  go_ret
  exact ⟨rfl, Q3.out, K3.out⟩
end Go.Proofs.Ytalfncnpffbmmaa

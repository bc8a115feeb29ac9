/-
  The library's Sort of a row of uint64: cmp.Less, insertion.
-/
import Derived.Deep.QuietTactic
import Derived.BigQuiet
import Derived.Test.YtalfncnpffbmmaaSa0
namespace Go.Proofs.Ytalfncnpffbmmaa
open Go.RowKit Go.Deep

set_option maxRecDepth 100000 in
theorem snan_any (x : Int) (w : World) : Calls Try.prog 38 #[.int .u64 x] w fun e w' => e = .returned (.bool false) ∧ w' = w := by
  have h : (x != x) = false := by simp
  go_enter Try.func38, Try.ntmps38
  go_wp2
  go_ret
  exact ⟨rfl, rfl⟩
set_option maxRecDepth 100000 in
theorem sless_any (x y : Int) (w : World) : Calls Try.prog 26 #[.int .u64 x, .int .u64 y] w fun e w' => e = .returned (.bool (decide (x < y))) ∧ w' = w := by
  go_enter Try.func26, Try.ntmps26
  go_wp2_with (go_at_call 38; refine (snan_any _ _).mono ?_; rintro e w1 ⟨rfl, rfl⟩)
  go_ret
  exact ⟨rfl, rfl⟩
set_option maxRecDepth 100000 in
set_option maxHeartbeats 1000000 in
theorem sins_any (b o m c n a z : Nat) (d : Array Int) (w : World) (haz : a ≤ z) (hz : z ≤ n) (hn : n ≤ 1000000) (HD : Hid (d.size = n)) (HX : Hid (Srow w b o m d)) :
    Calls Try.prog 28 #[.slice (some ⟨b, o, none⟩) n c, .int .i64 (a : Int), .int .i64 (z : Int)] w fun e w' => e = .returned (.tuple #[]) ∧ Srow w' b o m (Sort.insertionSort Sort.ltInt d a z) ∧ Kept b w w' := by
  go_enter Try.func28, Try.ntmps28
  go_wp2_with fail
  go_loopw [6] (fun i wr => ∃ (k : Nat) (d1 : Array Int), i = .int .i64 k ∧ a + 1 ≤ k ∧ k ≤ z + 1 ∧ Hid (d1.size = n) ∧ Hid (Srow wr b o m d1) ∧ Hid (Kept b w wr) ∧ Hid (Sort.insOuter Sort.ltInt a z k d1 = Sort.insOuter Sort.ltInt a z (a + 1) d)) (fun i _ => z + 1 - (intOf i).toNat)
  case atStart => exact ⟨a + 1, d, by go_num, Nat.le_refl _, by omega, HD, HX, Kept.refl _ _, rfl⟩
  case round =>
    obtain ⟨k, d1, rfl, h1, h2, hd1, hx1, hk1, ho1⟩ := hrel
    by_cases hk : k < z
    · have i1 : (k : Int) < (z : Int) := by omega
      go_wp2_with fail
      generalize wr = wo at *
      go_loopw [7] (fun j wr => ∃ (p : Nat) (d2 : Array Int), j = .int .i64 p ∧ a ≤ p ∧ p ≤ k ∧ Hid (d2.size = n) ∧ Hid (Srow wr b o m d2) ∧ Hid (Kept b w wr) ∧ Hid (Sort.insInner Sort.ltInt a p d2 = Sort.insInner Sort.ltInt a k d1)) (fun j _ => (intOf j).toNat)
      case atStart => exact ⟨k, d1, rfl, by omega, Nat.le_refl _, hd1, hx1, hk1, rfl⟩
      case round =>
        obtain ⟨p, d2, rfl, g1, g2, hd2, hx2, hk2, hi2⟩ := hrel
        by_cases hp : a < p
        · obtain ⟨q, rfl⟩ : ∃ q, p = q + 1 := ⟨p - 1, by omega⟩
          obtain ⟨x, hx⟩ : ∃ x, x = d2[q + 1]! := ⟨_, rfl⟩
          obtain ⟨y, hy⟩ : ∃ y, y = d2[q]! := ⟨_, rfl⟩
          have s2 := hd2.out
          have c1 : wr.cell? ⟨b, o + (q + 1), none⟩ = some (.int .u64 x) := hx ▸ hx2.out.cell (q + 1) (by omega)
          have c2 : wr.cell? ⟨b, o + q, none⟩ = some (.int .u64 y) := hy ▸ hx2.out.cell q (by omega)
          have f1 : wr.frozen? ⟨b, o + (q + 1), none⟩ = false := hx2.out.thaw _
          have f2 : wr.frozen? ⟨b, o + q, none⟩ = false := hx2.out.thaw _
          have HX1 : Hid (x = d2[q + 1]!) := hx
          have HY1 : Hid (y = d2[q]!) := hy
          obtain ⟨P, hP⟩ : ∃ P, P = q + 1 := ⟨_, rfl⟩
          have HP : Hid (P = q + 1) := hP
          rw [← hP] at c1 f1
          have e2 : (P : Int) - 1 = (q : Int) := by omega
          have e3 : ((q + 1 : Nat) : Int) = (P : Int) := by omega
          have i2 : (q : Int) < (n : Int) := by omega
          have i3 : (P : Int) < (n : Int) := by omega
          have i4 : (a : Int) < (P : Int) := by omega
          rw [e3]
          clear hx hy s2 hP e3
          by_cases hl : x < y
          · have l1 : decide (x < y) = true := by simpa using hl
            go_wp2_with fail
            go_quiet ((go_at_call 26; exact Calls.quiet_of_same (sless_any _ _ _)))
            go_wp2_with fail
            go_region
            go_wp2_with fail
            go_roundw
            case rel =>
              obtain rfl := HP.out
              exact ⟨q, Sort.swp d2 (q + 1) q, rfl, by omega, by omega, (Sort.size_swp _ _ _).trans hd2.out, (hx2.out.same ⟨_, rfl⟩).swap (q + 1) q (by rw [hd2.out]; omega) (by rw [hd2.out]; omega) y x HY1.out HX1.out, hk2.out.trans ((Kept.of_same ⟨_, rfl⟩).trans (kept_two _ _ _ _)), (ins_go a q d2 hp (by rw [← HX1.out, ← HY1.out]; exact hl)).symm.trans hi2.out⟩
            case measure => simp [intOf]; omega
          · have l1 : decide (x < y) = false := by simpa using hl
            go_wp2_with fail
            go_quiet ((go_at_call 26; exact Calls.quiet_of_same (sless_any _ _ _)))
            go_wp2_with fail
            go_roundw
            case rel =>
              refine ⟨k + 1, d2, by go_num, by omega, by omega, hd2, hx2.out.same ⟨_, rfl⟩, hk2.out.trans (Kept.of_same ⟨_, rfl⟩), ?_⟩
              show Sort.insOuter Sort.ltInt a z (k + 1) d2 = _
              rw [← ho1.out, outer_go a z k d1 hk, ← hi2.out, ins_stop a q d2 (by rw [← HX1.out, ← HY1.out]; omega)]
            case measure => simp [intOf]; omega
        · obtain rfl : p = a := by omega
          have i1 : decide ((p : Int) < (p : Int)) = false := by simp
          go_wp2_with fail
          go_quiet ((go_at_call 26; exact Calls.quiet_of_same (sless_any _ _ _)))
          go_wp2_with fail
          go_roundw
          case rel =>
            refine ⟨k + 1, d2, by go_num, by omega, by omega, hd2, hx2.out.same ⟨_, rfl⟩, hk2.out.trans (Kept.of_same ⟨_, rfl⟩), ?_⟩
            show Sort.insOuter Sort.ltInt p z (k + 1) d2 = _
            rw [← ho1.out, outer_go p z k d1 hk, ← hi2.out, ins_end]
          case measure => simp [intOf]; omega
    · have i1 : decide ((k : Int) < (z : Int)) = false := by simp; omega
      go_wp2
      exact bodyPost_end (results_none Try.results28 _ _ _) rfl ⟨rfl, by unfold Sort.insertionSort; rw [← ho1.out, outer_stop _ _ _ _ hk]; exact hx1.out, hk1.out⟩
end Go.Proofs.Ytalfncnpffbmmaa

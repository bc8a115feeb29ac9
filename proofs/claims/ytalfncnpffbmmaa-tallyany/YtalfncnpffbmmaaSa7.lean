/-
  The library's Sort of a row of uint64: those that are not above a pivot ahead of the others.
-/
import Derived.Test.YtalfncnpffbmmaaSa4
namespace Go.Proofs.Ytalfncnpffbmmaa
open Go.RowKit Go.Deep

theorem eq_stop {a i j i2 j2 : Nat} {d : Array Int} (h1 : Sort.scanUp (fun x => !Sort.ltInt d[a]! x) d j i = i2) (h2 : Sort.scanDown (fun x => Sort.ltInt d[a]! x) d i2 j = j2) (h : j2 < i2) : Sort.partEqLoop Sort.ltInt a i j d = (i2, d) := by
  rw [Sort.partEqLoop]
  simp only [h1, h2]
  rw [if_pos h]
theorem eq_go {a i j i2 j2 : Nat} {d : Array Int} (h1 : Sort.scanUp (fun x => !Sort.ltInt d[a]! x) d j i = i2) (h2 : Sort.scanDown (fun x => Sort.ltInt d[a]! x) d i2 j = j2) (h : i2 ≤ j2) (g1 : i ≤ i2) (g2 : j2 ≤ j) :
    Sort.partEqLoop Sort.ltInt a i j d = Sort.partEqLoop Sort.ltInt a (i2 + 1) (j2 - 1) (Sort.swp d i2 j2) := by
  rw [Sort.partEqLoop]
  simp only [h1, h2]
  rw [if_neg (by omega), dif_pos (by omega)]
set_option maxRecDepth 100000 in
set_option maxHeartbeats 2000000 in
theorem speq_any (b o m c n a z p : Nat) (d : Array Int) (w : World) (h1 : a ≤ p) (h2 : p < z) (hz : z ≤ n) (hn : n ≤ 1000000) (HD : Hid (d.size = n)) (HX : Hid (Srow w b o m d)) :
    Calls Try.prog 34 #[.slice (some ⟨b, o, none⟩) n c, .int .i64 (a : Int), .int .i64 (z : Int), .int .i64 (p : Int)] w fun e w' =>
      e = .returned (.int .i64 ((Sort.partitionEqual Sort.ltInt d a z p).1 : Nat)) ∧ Srow w' b o m (Sort.partitionEqual Sort.ltInt d a z p).2 ∧ Kept b w w' := by
  obtain ⟨J, hJ⟩ : ∃ J, z = J + 1 := ⟨z - 1, by omega⟩
  have e0 : (z : Int) - 1 = (J : Int) := by omega
  have h3 : p < J + 1 := by omega
  have h4 : J + 1 ≤ n := by omega
  have HJ : Hid (z = J + 1) := hJ
  clear hJ h2 hz
  obtain ⟨x, hx⟩ : ∃ x, x = d[a]! := ⟨_, rfl⟩
  obtain ⟨y, hy⟩ : ∃ y, y = d[p]! := ⟨_, rfl⟩
  have s2 := HD.out
  have c1 : w.cell? ⟨b, o + a, none⟩ = some (.int .u64 x) := hx ▸ HX.out.cell a (by omega)
  have c2 : w.cell? ⟨b, o + p, none⟩ = some (.int .u64 y) := hy ▸ HX.out.cell p (by omega)
  have f1 : w.frozen? ⟨b, o + a, none⟩ = false := HX.out.thaw _
  have f2 : w.frozen? ⟨b, o + p, none⟩ = false := HX.out.thaw _
  obtain ⟨u, c4⟩ : ∃ u, (w.setCell ⟨b, o + a, none⟩ (.int .u64 y)).cell? ⟨b, o + p, none⟩ = some u := cell_after c2 _ _
  have HX1 : Hid (x = d[a]!) := hx
  have HY1 : Hid (y = d[p]!) := hy
  have i2 : (a : Int) < (n : Int) := by omega
  have i3 : (p : Int) < (n : Int) := by omega
  clear hx hy s2
  go_enter Try.func34, Try.ntmps34
  go_wp2_with fail
  go_region
  go_wp2_with fail
  have D1 : Srow (((w.setCell ⟨b, o + a, none⟩ (.int .u64 y)).setCell ⟨b, o + p, none⟩ (.int .u64 x)).drew) b o m (Sort.swp d a p) := HX.out.swapd a p (by rw [HD.out]; omega) (by rw [HD.out]; omega) y x HY1.out HX1.out
  have K1 : Kept b w (((w.setCell ⟨b, o + a, none⟩ (.int .u64 y)).setCell ⟨b, o + p, none⟩ (.int .u64 x)).drew) := kept_twod _ _ _ _
  generalize ((w.setCell ⟨b, o + a, none⟩ (.int .u64 y)).setCell ⟨b, o + p, none⟩ (.int .u64 x)).drew = v0 at *
  obtain ⟨D, hD⟩ : ∃ D, D = Sort.swp d a p := ⟨_, rfl⟩
  rw [← hD] at D1
  have HD0 : Hid (D.size = n) := by rw [hD]; exact (Sort.size_swp _ _ _).trans HD.out
  have HX0 : Hid (Srow v0 b o m D) := D1
  have HK0 : Hid (Kept b w v0) := K1
  have HE : Hid (Sort.partEqLoop Sort.ltInt a (a + 1) J D = Sort.partitionEqual Sort.ltInt d a z p) := by
    show Sort.partEqLoop Sort.ltInt a (a + 1) J D = Sort.partitionEqual Sort.ltInt d a z p
    rw [hD, HJ.out]
    rfl
  clear D1 K1 hD HX HX1 HY1 c1 c2 c4 f1 f2
  obtain ⟨kE, E, hE⟩ : ∃ kE E, Sort.partitionEqual Sort.ltInt d a z p = (kE, E) := ⟨_, _, rfl⟩
  have HEE : Hid (Sort.partitionEqual Sort.ltInt d a z p = (kE, E)) := hE
  rw [hE] at HE
  clear hE
  go_loopw [9, 10] (fun i j wr => ∃ (i0 j0 : Nat) (D3 : Array Int), i = .int .i64 i0 ∧ j = .int .i64 j0 ∧ a + 1 ≤ i0 ∧ i0 ≤ j0 + 1 ∧ j0 ≤ J ∧ Hid (D3.size = n) ∧ Hid (Srow wr b o m D3) ∧ Hid (Kept b w wr) ∧ Hid (Sort.partEqLoop Sort.ltInt a i0 j0 D3 = (kE, E))) (fun i j _ => (intOf j + 1 - intOf i).toNat)
  case atStart => exact ⟨a + 1, J, D, by go_num, by go_num, by omega, by omega, by omega, HD0, HX0, HK0, HE⟩
  case round =>
    obtain ⟨i3, j3, D3, rfl, rfl, g13, g23, g33, hd3, hx3, hk3, ho3⟩ := hrel
    go_wp2_with fail
    generalize wr = v3 at *
    go_loopw [9] (fun i wr => ∃ k : Nat, i = .int .i64 k ∧ i3 ≤ k ∧ k ≤ j3 + 1 ∧ Hid (Srow wr b o m D3) ∧ Hid (Kept b w wr) ∧ Hid (Sort.scanUp (fun x => !Sort.ltInt D3[a]! x) D3 j3 k = Sort.scanUp (fun x => !Sort.ltInt D3[a]! x) D3 j3 (i3))) (fun i _ => j3 + 1 - (intOf i).toNat)
    case atStart => exact ⟨i3, by go_num, Nat.le_refl _, by omega, hx3, hk3, rfl⟩
    case round =>
      obtain ⟨k4, rfl, g14, g24, hx4, hk4, ho4⟩ := hrel
      go_upto_region 3 with fail
      go_cut [43] from 29 to 45 (fun t wc => ∃ B : Bool, t = .bool B ∧ Hid (B = decide (k4 ≤ j3 ∧ ¬ D3[a]! < D3[k4]!)) ∧ Hid (Srow wc b o m D3) ∧ Hid (Kept b w wc))
      case first =>
        by_cases hk : k4 ≤ j3
        · obtain ⟨x, hx⟩ : ∃ x, x = D3[a]! := ⟨_, rfl⟩
          obtain ⟨y, hy⟩ : ∃ y, y = D3[k4]! := ⟨_, rfl⟩
          have s2 := hd3.out
          have c1 : wr.cell? ⟨b, o + a, none⟩ = some (.int .u64 x) := hx ▸ hx4.out.cell a (by omega)
          have c2 : wr.cell? ⟨b, o + k4, none⟩ = some (.int .u64 y) := hy ▸ hx4.out.cell k4 (by omega)
          have HX1 : Hid (x = D3[a]!) := hx
          have HY1 : Hid (y = D3[k4]!) := hy
          have HQ : Hid (k4 ≤ j3) := hk
          have i1 : (k4 : Int) ≤ (j3 : Int) := by omega
          have i2 : (k4 : Int) < (n : Int) := by omega
          have i3 : (a : Int) < (n : Int) := by omega
          clear hx hy s2
          by_cases hl : x < y
          · have l1 : decide (x < y) = true := by simpa using hl
            have HL : Hid (x < y) := hl
            go_wp2_with fail
            go_quiet ((go_at_call 26; exact Calls.quiet_of_same (sless_any _ _ _)))
            go_wp2_with fail
            go_meet
            case rel =>
              refine ⟨_, rfl, ?_, hx4.out.same ⟨_, rfl⟩, hk4.out.trans (Kept.of_same ⟨_, rfl⟩)⟩
              show false = decide _
              rw [decide_eq_false]
              rw [← HX1.out, ← HY1.out]
              exact fun h => by have := h.2; have := HL.out; omega
          · have l1 : decide (x < y) = false := by simpa using hl
            have HL : Hid (¬ x < y) := hl
            go_wp2_with fail
            go_quiet ((go_at_call 26; exact Calls.quiet_of_same (sless_any _ _ _)))
            go_wp2_with fail
            go_meet
            case rel =>
              refine ⟨_, rfl, ?_, hx4.out.same ⟨_, rfl⟩, hk4.out.trans (Kept.of_same ⟨_, rfl⟩)⟩
              show true = decide _
              rw [decide_eq_true]
              rw [← HX1.out, ← HY1.out]
              exact ⟨HQ.out, HL.out⟩
        · have i1 : decide ((k4 : Int) ≤ (j3 : Int)) = false := by simp; omega
          have i2 : decide (k4 ≤ j3) = false := by simp; omega
          have HN : Hid (¬ k4 ≤ j3) := hk
          clear hk
          go_wp2_with fail
          go_quiet ((go_at_call 26; exact Calls.quiet_of_same (sless_any _ _ _)))
          go_wp2_with fail
          go_meet
          case rel => exact ⟨_, rfl, (decide_eq_false (fun h => HN.out h.1)).symm, hx4.out.same ⟨_, rfl⟩, hk4.out.trans (Kept.of_same ⟨_, rfl⟩)⟩
      case rest =>
        obtain ⟨B, rfl, hB4, hx'4, hk'4⟩ := hcut
        generalize wc = v4 at *
        have hb4 := hB4.out
        cases B
        · have hn4 := of_decide_eq_false hb4.symm
          have F4 : Hid (¬ (k4 ≤ j3 ∧ ¬ D3[a]! < D3[k4]!)) := hn4
          have N4 : Hid (Sort.scanUp (fun x => !Sort.ltInt D3[a]! x) D3 j3 (i3) = k4) := ho4.out.symm.trans (up_stop _ _ _ _ (fun h => by rw [Bool.not_eq_false']; exact decide_eq_true (Decidable.byContradiction fun g => hn4 ⟨h, g⟩)))
          clear hn4 hb4 hB4 ho4
          go_wp2_with fail
          go_loopw [10] (fun j wr => ∃ q : Nat, j = .int .i64 q ∧ k4 ≤ q + 1 ∧ q ≤ j3 ∧ Hid (Srow wr b o m D3) ∧ Hid (Kept b w wr) ∧ Hid (Sort.scanDown (fun x => Sort.ltInt D3[a]! x) D3 k4 q = Sort.scanDown (fun x => Sort.ltInt D3[a]! x) D3 k4 j3)) (fun j _ => (intOf j).toNat)
          case atStart => exact ⟨j3, by go_num, by omega, Nat.le_refl _, hx'4, hk'4, rfl⟩
          case round =>
            obtain ⟨q5, rfl, g15, g25, hx5, hk5, ho5⟩ := hrel
            go_upto_region 5 with fail
            go_cut [59] from 46 to 61 (fun t wc => ∃ B : Bool, t = .bool B ∧ Hid (B = decide (k4 ≤ q5 ∧ D3[a]! < D3[q5]!)) ∧ Hid (Srow wc b o m D3) ∧ Hid (Kept b w wc))
            case first =>
              by_cases hk : k4 ≤ q5
              · obtain ⟨x, hx⟩ : ∃ x, x = D3[a]! := ⟨_, rfl⟩
                obtain ⟨y, hy⟩ : ∃ y, y = D3[q5]! := ⟨_, rfl⟩
                have s2 := hd3.out
                have c1 : wr.cell? ⟨b, o + a, none⟩ = some (.int .u64 x) := hx ▸ hx5.out.cell a (by omega)
                have c2 : wr.cell? ⟨b, o + q5, none⟩ = some (.int .u64 y) := hy ▸ hx5.out.cell q5 (by omega)
                have HX1 : Hid (x = D3[a]!) := hx
                have HY1 : Hid (y = D3[q5]!) := hy
                have HQ : Hid (k4 ≤ q5) := hk
                have i1 : (k4 : Int) ≤ (q5 : Int) := by omega
                have i2 : (q5 : Int) < (n : Int) := by omega
                have i3 : (a : Int) < (n : Int) := by omega
                clear hx hy s2
                by_cases hl : x < y
                · have l1 : decide (x < y) = true := by simpa using hl
                  have HL : Hid (x < y) := hl
                  go_wp2_with fail
                  go_quiet ((go_at_call 26; exact Calls.quiet_of_same (sless_any _ _ _)))
                  go_wp2_with fail
                  go_meet
                  case rel =>
                    refine ⟨_, rfl, ?_, hx5.out.same ⟨_, rfl⟩, hk5.out.trans (Kept.of_same ⟨_, rfl⟩)⟩
                    show true = decide _
                    rw [decide_eq_true]
                    rw [← HX1.out, ← HY1.out]
                    exact ⟨HQ.out, HL.out⟩
                · have l1 : decide (x < y) = false := by simpa using hl
                  have HL : Hid (¬ x < y) := hl
                  go_wp2_with fail
                  go_quiet ((go_at_call 26; exact Calls.quiet_of_same (sless_any _ _ _)))
                  go_wp2_with fail
                  go_meet
                  case rel =>
                    refine ⟨_, rfl, ?_, hx5.out.same ⟨_, rfl⟩, hk5.out.trans (Kept.of_same ⟨_, rfl⟩)⟩
                    show false = decide _
                    rw [decide_eq_false]
                    rw [← HX1.out, ← HY1.out]
                    exact fun h => by have := h.2; have := HL.out; omega
              · have i1 : decide ((k4 : Int) ≤ (q5 : Int)) = false := by simp; omega
                have i2 : decide (k4 ≤ q5) = false := by simp; omega
                have HN : Hid (¬ k4 ≤ q5) := hk
                clear hk
                go_wp2_with fail
                go_quiet ((go_at_call 26; exact Calls.quiet_of_same (sless_any _ _ _)))
                go_wp2_with fail
                go_meet
                case rel => exact ⟨_, rfl, (decide_eq_false (fun h => HN.out h.1)).symm, hx5.out.same ⟨_, rfl⟩, hk5.out.trans (Kept.of_same ⟨_, rfl⟩)⟩
            case rest =>
              obtain ⟨B, rfl, hB5, hx'5, hk'5⟩ := hcut
              generalize wc = v5 at *
              have hb5 := hB5.out
              cases B
              · have hn5 := of_decide_eq_false hb5.symm
                have F5 : Hid (¬ (k4 ≤ q5 ∧ D3[a]! < D3[q5]!)) := hn5
                have N5 : Hid (Sort.scanDown (fun x => Sort.ltInt D3[a]! x) D3 k4 j3 = q5) := ho5.out.symm.trans (down_stop0 _ _ _ _ (fun h => decide_eq_false (fun g => hn5 ⟨h, g⟩)))
                clear hn5 hb5 hB5 ho5
                by_cases hlt0 : q5 < k4
                · have H45 : Hid (q5 < k4) := hlt0
                  have hlt : (q5 : Int) < (k4 : Int) := by omega
                  go_wp2
                  go_ret
                  have EQ := ho3.out.symm.trans (eq_stop N4.out N5.out H45.out)
                  rw [HEE.out, EQ]
                  exact ⟨rfl, hx'5.out, hk'5.out⟩
                · have H45 : Hid (k4 ≤ q5) := by show k4 ≤ q5; omega
                  have L45 : k4 < q5 := by
                    by_cases e : k4 = q5
                    · exfalso
                      have := F4.out
                      have := F5.out
                      subst e
                      by_cases g : D3[a]! < D3[k4]!
                      · exact F5.out ⟨Nat.le_refl _, g⟩
                      · exact F4.out ⟨g25, by omega⟩
                    · omega
                  obtain ⟨t, rfl⟩ : ∃ t, q5 = t + 1 := ⟨q5 - 1, by omega⟩
                  obtain ⟨Q, hQ⟩ : ∃ Q, Q = t + 1 := ⟨_, rfl⟩
                  have HQ : Hid (Q = t + 1) := hQ
                  obtain ⟨x, hx⟩ : ∃ x, x = D3[k4]! := ⟨_, rfl⟩
                  obtain ⟨y, hy⟩ : ∃ y, y = D3[Q]! := ⟨_, rfl⟩
                  have s2 := hd3.out
                  have c1 : v5.cell? ⟨b, o + k4, none⟩ = some (.int .u64 x) := hx ▸ hx'5.out.cell k4 (by omega)
                  have c2 : v5.cell? ⟨b, o + Q, none⟩ = some (.int .u64 y) := hy ▸ hx'5.out.cell Q (by omega)
                  have f1 : v5.frozen? ⟨b, o + k4, none⟩ = false := hx'5.out.thaw _
                  have f2 : v5.frozen? ⟨b, o + Q, none⟩ = false := hx'5.out.thaw _
                  obtain ⟨u, c4⟩ : ∃ u, (v5.setCell ⟨b, o + k4, none⟩ (.int .u64 y)).cell? ⟨b, o + Q, none⟩ = some u := cell_after c2 _ _
                  have HX1 : Hid (x = D3[k4]!) := hx
                  have HY1 : Hid (y = D3[Q]!) := hy
                  have i2 : (k4 : Int) < (n : Int) := by omega
                  have i3 : (Q : Int) < (n : Int) := by omega
                  clear hx hy s2
                  have e1 : (Q : Int) - 1 = (t : Int) := by omega
                  have e2 : ((t + 1 : Nat) : Int) = (Q : Int) := by omega
                  have hlt : decide ((Q : Int) < (k4 : Int)) = false := by simp; omega
                  rw [e2]
                  clear hQ e2
                  go_wp2_with fail
                  go_region
                  go_wp2_with fail
                  go_roundw
                  case rel =>
                    obtain rfl := HQ.out
                    exact ⟨k4 + 1, t, Sort.swp D3 k4 (t + 1), by go_num, rfl, by omega, by omega, by omega, (Sort.size_swp _ _ _).trans hd3.out, hx'5.out.swapd k4 (t + 1) (by rw [hd3.out]; omega) (by rw [hd3.out]; omega) y x HY1.out HX1.out, hk'5.out.trans (kept_twod _ _ _ _), (eq_go N4.out N5.out H45.out (by omega) (by omega)).symm.trans ho3.out⟩
                  case measure => simp [intOf]; omega
              · have hn5 := of_decide_eq_true hb5.symm
                have F5 : Hid (k4 ≤ q5 ∧ D3[a]! < D3[q5]!) := hn5
                have f5 := hn5.1
                clear hn5 hb5 hB5
                obtain ⟨t, rfl⟩ : ∃ t, q5 = t + 1 := ⟨q5 - 1, by omega⟩
                have e1 : ((t + 1 : Nat) : Int) - 1 = (t : Int) := by omega
                go_wp2_with fail
                go_roundw
                case rel => exact ⟨t, by go_num, by omega, by omega, hx'5, hk'5, (down_go _ _ _ _ F5.out.1 (decide_eq_true F5.out.2)).symm.trans ho5.out⟩
                case measure => simp [intOf]
        · have hn4 := of_decide_eq_true hb4.symm
          have F4 : Hid (k4 ≤ j3 ∧ ¬ D3[a]! < D3[k4]!) := hn4
          have f4 := hn4.1
          clear hn4 hb4 hB4
          go_wp2_with fail
          go_roundw
          case rel => exact ⟨k4 + 1, by go_num, by omega, by omega, hx'4, hk'4, (up_go _ _ _ _ F4.out.1 (by rw [Bool.not_eq_true']; exact decide_eq_false F4.out.2)).symm.trans ho4.out⟩
          case measure => simp [intOf]; omega
end Go.Proofs.Ytalfncnpffbmmaa

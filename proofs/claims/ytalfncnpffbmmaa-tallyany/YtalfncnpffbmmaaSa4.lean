/-
  The library's Sort of a row of uint64: the parting by a pivot.
-/
import Derived.Deep.CutRange
import Derived.Test.YtalfncnpffbmmaaSa1
namespace Go.Proofs.Ytalfncnpffbmmaa
open Go.RowKit Go.Deep

theorem down_stop0 (p : Int → Bool) (d : Array Int) (i q : Nat) (h : i ≤ q → p d[q]! = false) : Sort.scanDown p d i q = q := by
  cases q with
  | zero => rfl
  | succ q => exact down_stop p d i q h
theorem cell_after {w : World} {q : Addr} {v : Value} (h : w.cell? q = some v) (p : Addr) (u : Value) : ∃ r, (w.setCell p u).cell? q = some r := by
  by_cases e : p = q
  · exact ⟨u, by rw [e, World.cell?_setCell_same _ _ _ h]⟩
  · exact ⟨v, by rw [World.cell?_setCell_other _ _ _ _ e, h]⟩
theorem Srow.swapd {w : World} {b o m : Nat} {d : Array Int} (h : Srow w b o m d) (i j : Nat) (hi : i < d.size) (hj : j < d.size) (x y : Int) (hx : x = d[j]!) (hy : y = d[i]!) :
    Srow (((w.setCell ⟨b, o + i, none⟩ (.int .u64 x)).setCell ⟨b, o + j, none⟩ (.int .u64 y)).drew) b o m (Sort.swp d i j) := (h.swap i j hi hj x y hx hy).same ⟨1, rfl⟩
theorem kept_twod {w : World} {b : Nat} (i j : Nat) (x y : Value) : Kept b w (((w.setCell ⟨b, i, none⟩ x).setCell ⟨b, j, none⟩ y).drew) := (kept_two i j x y).trans (Kept.of_same ⟨1, rfl⟩)
theorem loop_stop {a i j i2 j2 : Nat} {d : Array Int} (h1 : Sort.scanUp (fun x => Sort.ltInt x d[a]!) d j i = i2) (h2 : Sort.scanDown (fun x => !Sort.ltInt x d[a]!) d i2 j = j2) (h : j2 < i2) : Sort.partLoop Sort.ltInt a i j d = (j2, d) := by
  rw [Sort.partLoop]
  simp only [h1, h2]
  rw [if_pos h]
theorem loop_go {a i j i2 j2 : Nat} {d : Array Int} (h1 : Sort.scanUp (fun x => Sort.ltInt x d[a]!) d j i = i2) (h2 : Sort.scanDown (fun x => !Sort.ltInt x d[a]!) d i2 j = j2) (h : i2 ≤ j2) (g1 : i ≤ i2) (g2 : j2 ≤ j) :
    Sort.partLoop Sort.ltInt a i j d = Sort.partLoop Sort.ltInt a (i2 + 1) (j2 - 1) (Sort.swp d i2 j2) := by
  rw [Sort.partLoop]
  simp only [h1, h2]
  rw [if_neg (by omega), dif_pos (by omega)]
/-- What parts at once. -/
theorem prt_stop {a J p i j : Nat} {d D : Array Int} (hD : D = Sort.swp d a p) (h1 : Sort.scanUp (fun x => Sort.ltInt x D[a]!) D J (a + 1) = i) (h2 : Sort.scanDown (fun x => !Sort.ltInt x D[a]!) D i J = j) (h : j < i) :
    Sort.partition Sort.ltInt d a (J + 1) p = (j, true, Sort.swp D j a) := by
  unfold Sort.partition
  simp only [← hD, Nat.add_sub_cancel, h1, h2]
  rw [if_pos h]
theorem prt_go {a J p i j k : Nat} {d D E : Array Int} (hD : D = Sort.swp d a p) (h1 : Sort.scanUp (fun x => Sort.ltInt x D[a]!) D J (a + 1) = i) (h2 : Sort.scanDown (fun x => !Sort.ltInt x D[a]!) D i J = j) (h : i ≤ j) (h3 : Sort.partLoop Sort.ltInt a (i + 1) (j - 1) (Sort.swp D i j) = (k, E)) :
    Sort.partition Sort.ltInt d a (J + 1) p = (k, false, Sort.swp E k a) := by
  unfold Sort.partition
  simp only [← hD, Nat.add_sub_cancel, h1, h2]
  rw [if_neg (by omega), h3]
set_option maxRecDepth 100000 in
set_option maxHeartbeats 2000000 in
theorem sprt_any (b o m c n a z p : Nat) (d : Array Int) (w : World) (h1 : a ≤ p) (h2 : p < z) (hz : z ≤ n) (hn : n ≤ 1000000) (HD : Hid (d.size = n)) (HX : Hid (Srow w b o m d)) :
    Calls Try.prog 35 #[.slice (some ⟨b, o, none⟩) n c, .int .i64 (a : Int), .int .i64 (z : Int), .int .i64 (p : Int)] w fun e w' =>
      e = .returned (.tuple #[.int .i64 ((Sort.partition Sort.ltInt d a z p).1 : Nat), .bool (Sort.partition Sort.ltInt d a z p).2.1]) ∧ Srow w' b o m (Sort.partition Sort.ltInt d a z p).2.2 ∧ Kept b w w' := by
  obtain ⟨J, rfl⟩ : ∃ J, z = J + 1 := ⟨z - 1, by omega⟩
  have e0 : ((J + 1 : Nat) : Int) - 1 = (J : Int) := by omega
  obtain ⟨x, hx⟩ : ∃ x, x = d[a]! := ⟨_, rfl⟩
  obtain ⟨y, hy⟩ : ∃ y, y = d[p]! := ⟨_, rfl⟩
  have s2 := HD.out
  have c1 : w.cell? ⟨b, o + a, none⟩ = some (.int .u64 x) := hx ▸ HX.out.cell a (by omega)
  have c2 : w.cell? ⟨b, o + p, none⟩ = some (.int .u64 y) := hy ▸ HX.out.cell p (by omega)
  have f1 : w.frozen? ⟨b, o + a, none⟩ = false := HX.out.thaw _
  have f2 : w.frozen? ⟨b, o + p, none⟩ = false := HX.out.thaw _
  obtain ⟨u, c4⟩ : ∃ u, (w.setCell ⟨b, o + a, none⟩ (.int .u64 y)).cell? ⟨b, o + p, none⟩ = some u := cell_after c2 _ _
  have HX1 : Hid (x = d[a]!) := hx
  have HY1 : Hid (y = d[p]!) := hy
  have i2 : (a : Int) < (n : Int) := by omega
  have i3 : (p : Int) < (n : Int) := by omega
  clear hx hy s2
  go_enter Try.func35, Try.ntmps35
  go_wp2_with fail
  go_region
  go_wp2_with fail
  have D1 : Srow (((w.setCell ⟨b, o + a, none⟩ (.int .u64 y)).setCell ⟨b, o + p, none⟩ (.int .u64 x)).drew) b o m (Sort.swp d a p) := HX.out.swapd a p (by rw [HD.out]; omega) (by rw [HD.out]; omega) y x HY1.out HX1.out
  have K1 : Kept b w (((w.setCell ⟨b, o + a, none⟩ (.int .u64 y)).setCell ⟨b, o + p, none⟩ (.int .u64 x)).drew) := kept_twod _ _ _ _
  generalize ((w.setCell ⟨b, o + a, none⟩ (.int .u64 y)).setCell ⟨b, o + p, none⟩ (.int .u64 x)).drew = v0 at *
  obtain ⟨D, hD⟩ : ∃ D, D = Sort.swp d a p := ⟨_, rfl⟩
  rw [← hD] at D1
  have HDD : Hid (D = Sort.swp d a p) := hD
  have HD0 : Hid (D.size = n) := by rw [hD]; exact (Sort.size_swp _ _ _).trans HD.out
  have HX0 : Hid (Srow v0 b o m D) := D1
  have HK0 : Hid (Kept b w v0) := K1
  clear D1 K1 hD HX HX1 HY1 c1 c2 c4 f1 f2
  go_loopw [10] (fun i wr => ∃ k : Nat, i = .int .i64 k ∧ (a + 1) ≤ k ∧ k ≤ J + 1 ∧ Hid (Srow wr b o m D) ∧ Hid (Kept b w wr) ∧ Hid (Sort.scanUp (fun x => Sort.ltInt x D[a]!) D J k = Sort.scanUp (fun x => Sort.ltInt x D[a]!) D J ((a + 1)))) (fun i _ => J + 1 - (intOf i).toNat)
  case atStart => exact ⟨(a + 1), by go_num, Nat.le_refl _, by omega, HX0, HK0, rfl⟩
  case round =>
    obtain ⟨k1, rfl, g11, g21, hx1, hk1, ho1⟩ := hrel
    go_upto_region 3 with fail
    go_cut [43] from 30 to 45 (fun t wc => ∃ B : Bool, t = .bool B ∧ Hid (B = decide (k1 ≤ J ∧ D[k1]! < D[a]!)) ∧ Hid (Srow wc b o m D) ∧ Hid (Kept b w wc))
    case first =>
      by_cases hk : k1 ≤ J
      · obtain ⟨x, hx⟩ : ∃ x, x = D[k1]! := ⟨_, rfl⟩
        obtain ⟨y, hy⟩ : ∃ y, y = D[a]! := ⟨_, rfl⟩
        have s2 := HD0.out
        have c1 : wr.cell? ⟨b, o + k1, none⟩ = some (.int .u64 x) := hx ▸ hx1.out.cell k1 (by omega)
        have c2 : wr.cell? ⟨b, o + a, none⟩ = some (.int .u64 y) := hy ▸ hx1.out.cell a (by omega)
        have HX1 : Hid (x = D[k1]!) := hx
        have HY1 : Hid (y = D[a]!) := hy
        have i1 : (k1 : Int) ≤ (J : Int) := by omega
        have i2 : (k1 : Int) < (n : Int) := by omega
        have i3 : (a : Int) < (n : Int) := by omega
        clear hx hy s2
        go_wp2_with fail
        go_quiet ((go_at_call 26; exact Calls.quiet_of_same (sless_any _ _ _)))
        go_wp2_with fail
        go_meet
        case rel =>
          refine ⟨_, rfl, ?_, hx1.out.same ⟨_, rfl⟩, hk1.out.trans (Kept.of_same ⟨_, rfl⟩)⟩
          show decide _ = decide _
          rw [decide_eq_decide, ← HX1.out, ← HY1.out]
          exact ⟨fun h => ⟨hk, h⟩, fun h => h.2⟩
      · have i1 : decide ((k1 : Int) ≤ (J : Int)) = false := by simp; omega
        have i2 : decide (k1 ≤ J) = false := by simp; omega
        have HN : Hid (¬ k1 ≤ J) := hk
        clear hk
        go_wp2_with fail
        go_quiet ((go_at_call 26; exact Calls.quiet_of_same (sless_any _ _ _)))
        go_wp2_with fail
        go_meet
        case rel => exact ⟨_, rfl, (decide_eq_false (fun h => HN.out h.1)).symm, hx1.out.same ⟨_, rfl⟩, hk1.out.trans (Kept.of_same ⟨_, rfl⟩)⟩
    case rest =>
      obtain ⟨B, rfl, hB1, hx'1, hk'1⟩ := hcut
      generalize wc = v1 at *
      have hb1 := hB1.out
      cases B
      · have hn1 := of_decide_eq_false hb1.symm
        have F1 : Hid (¬ (k1 ≤ J ∧ D[k1]! < D[a]!)) := hn1
        have N1 : Hid (Sort.scanUp (fun x => Sort.ltInt x D[a]!) D J ((a + 1)) = k1) := ho1.out.symm.trans (up_stop _ _ _ _ (fun h => decide_eq_false (fun g => hn1 ⟨h, g⟩)))
        clear hn1 hb1 hB1 ho1
        go_wp2_with fail
        go_loopw [11] (fun j wr => ∃ q : Nat, j = .int .i64 q ∧ k1 ≤ q + 1 ∧ q ≤ J ∧ Hid (Srow wr b o m D) ∧ Hid (Kept b w wr) ∧ Hid (Sort.scanDown (fun x => !Sort.ltInt x D[a]!) D k1 q = Sort.scanDown (fun x => !Sort.ltInt x D[a]!) D k1 J)) (fun j _ => (intOf j).toNat)
        case atStart => exact ⟨J, by go_num, by omega, Nat.le_refl _, hx'1, hk'1, rfl⟩
        case round =>
          obtain ⟨q2, rfl, g12, g22, hx2, hk2, ho2⟩ := hrel
          go_upto_region 5 with fail
          go_cut [60] from 46 to 62 (fun t wc => ∃ B : Bool, t = .bool B ∧ Hid (B = decide (k1 ≤ q2 ∧ ¬ D[q2]! < D[a]!)) ∧ Hid (Srow wc b o m D) ∧ Hid (Kept b w wc))
          case first =>
            by_cases hk : k1 ≤ q2
            · obtain ⟨x, hx⟩ : ∃ x, x = D[q2]! := ⟨_, rfl⟩
              obtain ⟨y, hy⟩ : ∃ y, y = D[a]! := ⟨_, rfl⟩
              have s2 := HD0.out
              have c1 : wr.cell? ⟨b, o + q2, none⟩ = some (.int .u64 x) := hx ▸ hx2.out.cell q2 (by omega)
              have c2 : wr.cell? ⟨b, o + a, none⟩ = some (.int .u64 y) := hy ▸ hx2.out.cell a (by omega)
              have HX1 : Hid (x = D[q2]!) := hx
              have HY1 : Hid (y = D[a]!) := hy
              have i1 : (k1 : Int) ≤ (q2 : Int) := by omega
              have i2 : (q2 : Int) < (n : Int) := by omega
              have i3 : (a : Int) < (n : Int) := by omega
              have HQ : Hid (k1 ≤ q2) := hk
              clear hx hy s2
              by_cases hl : x < y
              · have l1 : decide (x < y) = true := by simpa using hl
                have HL : Hid (x < y) := hl
                go_wp2_with fail
                go_quiet ((go_at_call 26; exact Calls.quiet_of_same (sless_any _ _ _)))
                go_wp2_with fail
                go_meet
                case rel =>
                  refine ⟨_, rfl, ?_, hx2.out.same ⟨_, rfl⟩, hk2.out.trans (Kept.of_same ⟨_, rfl⟩)⟩
                  show false = decide _
                  rw [decide_eq_false]
                  rw [← HX1.out, ← HY1.out]
                  exact fun h => by have := h.2; have := HL.out; omega
              · have l1 : decide (x < y) = false := by simpa using hl
                have HL : Hid (¬ x < y) := hl
                go_wp2_with fail
                go_quiet ((go_at_call 26; exact Calls.quiet_of_same (sless_any _ _ _)))
                go_wp2_with fail
                go_meet
                case rel =>
                  refine ⟨_, rfl, ?_, hx2.out.same ⟨_, rfl⟩, hk2.out.trans (Kept.of_same ⟨_, rfl⟩)⟩
                  show true = decide _
                  rw [decide_eq_true]
                  rw [← HX1.out, ← HY1.out]
                  exact ⟨HQ.out, HL.out⟩
            · have i1 : decide ((k1 : Int) ≤ (q2 : Int)) = false := by simp; omega
              have i2 : decide (k1 ≤ q2) = false := by simp; omega
              have HN : Hid (¬ k1 ≤ q2) := hk
              clear hk
              go_wp2_with fail
              go_quiet ((go_at_call 26; exact Calls.quiet_of_same (sless_any _ _ _)))
              go_wp2_with fail
              go_meet
              case rel => exact ⟨_, rfl, (decide_eq_false (fun h => HN.out h.1)).symm, hx2.out.same ⟨_, rfl⟩, hk2.out.trans (Kept.of_same ⟨_, rfl⟩)⟩
          case rest =>
            obtain ⟨B, rfl, hB2, hx'2, hk'2⟩ := hcut
            generalize wc = v2 at *
            have hb2 := hB2.out
            cases B
            · have hn2 := of_decide_eq_false hb2.symm
              have F2 : Hid (¬ (k1 ≤ q2 ∧ ¬ D[q2]! < D[a]!)) := hn2
              have N2 : Hid (Sort.scanDown (fun x => !Sort.ltInt x D[a]!) D k1 J = q2) := ho2.out.symm.trans (down_stop0 _ _ _ _ (fun h => by rw [Bool.not_eq_false']; exact decide_eq_true (Decidable.byContradiction fun g => hn2 ⟨h, g⟩)))
              clear hn2 hb2 hB2 ho2
              by_cases hlt0 : q2 < k1
              · have H12 : Hid (q2 < k1) := hlt0
                obtain ⟨x, hx⟩ : ∃ x, x = D[q2]! := ⟨_, rfl⟩
                obtain ⟨y, hy⟩ : ∃ y, y = D[a]! := ⟨_, rfl⟩
                have s2 := HD0.out
                have c1 : v2.cell? ⟨b, o + q2, none⟩ = some (.int .u64 x) := hx ▸ hx'2.out.cell q2 (by omega)
                have c2 : v2.cell? ⟨b, o + a, none⟩ = some (.int .u64 y) := hy ▸ hx'2.out.cell a (by omega)
                have f1 : v2.frozen? ⟨b, o + q2, none⟩ = false := hx'2.out.thaw _
                have f2 : v2.frozen? ⟨b, o + a, none⟩ = false := hx'2.out.thaw _
                obtain ⟨u, c4⟩ : ∃ u, (v2.setCell ⟨b, o + q2, none⟩ (.int .u64 y)).cell? ⟨b, o + a, none⟩ = some u := cell_after c2 _ _
                have HX1 : Hid (x = D[q2]!) := hx
                have HY1 : Hid (y = D[a]!) := hy
                have i2 : (q2 : Int) < (n : Int) := by omega
                have i3 : (a : Int) < (n : Int) := by omega
                clear hx hy s2
                have hlt : (q2 : Int) < (k1 : Int) := by omega
                go_wp2_with fail
                go_region
                go_wp2
                go_ret2
                rw [prt_stop HDD.out N1.out N2.out H12.out]
                exact ⟨rfl, hx'2.out.swapd q2 a (by rw [HD0.out]; omega) (by rw [HD0.out]; omega) y x HY1.out HX1.out, hk'2.out.trans (kept_twod _ _ _ _)⟩
              · have H12 : Hid (k1 ≤ q2) := by show k1 ≤ q2; omega
                have L12 : k1 < q2 := by
                  by_cases e : k1 = q2
                  · exfalso
                    subst e
                    by_cases g : D[k1]! < D[a]!
                    · exact F1.out ⟨g22, g⟩
                    · exact F2.out ⟨Nat.le_refl _, by omega⟩
                  · omega
                obtain ⟨t, rfl⟩ : ∃ t, q2 = t + 1 := ⟨q2 - 1, by omega⟩
                obtain ⟨Q, hQ⟩ : ∃ Q, Q = t + 1 := ⟨_, rfl⟩
                have HQ : Hid (Q = t + 1) := hQ
                obtain ⟨x, hx⟩ : ∃ x, x = D[k1]! := ⟨_, rfl⟩
                obtain ⟨y, hy⟩ : ∃ y, y = D[Q]! := ⟨_, rfl⟩
                have s2 := HD0.out
                have c1 : v2.cell? ⟨b, o + k1, none⟩ = some (.int .u64 x) := hx ▸ hx'2.out.cell k1 (by omega)
                have c2 : v2.cell? ⟨b, o + Q, none⟩ = some (.int .u64 y) := hy ▸ hx'2.out.cell Q (by omega)
                have f1 : v2.frozen? ⟨b, o + k1, none⟩ = false := hx'2.out.thaw _
                have f2 : v2.frozen? ⟨b, o + Q, none⟩ = false := hx'2.out.thaw _
                obtain ⟨u, c4⟩ : ∃ u, (v2.setCell ⟨b, o + k1, none⟩ (.int .u64 y)).cell? ⟨b, o + Q, none⟩ = some u := cell_after c2 _ _
                have HX1 : Hid (x = D[k1]!) := hx
                have HY1 : Hid (y = D[Q]!) := hy
                have i2 : (k1 : Int) < (n : Int) := by omega
                have i3 : (Q : Int) < (n : Int) := by omega
                clear hx hy s2
                have e1 : (Q : Int) - 1 = (t : Int) := by omega
                have e2 : ((t + 1 : Nat) : Int) = (Q : Int) := by omega
                have hlt : decide ((Q : Int) < (k1 : Int)) = false := by simp; omega
                rw [e2]
                clear hQ e2
                go_wp2_with fail
                go_region
                go_wp2_with fail
                have D1 : Srow (((v2.setCell ⟨b, o + k1, none⟩ (.int .u64 y)).setCell ⟨b, o + Q, none⟩ (.int .u64 x)).drew) b o m (Sort.swp D k1 Q) := hx'2.out.swapd k1 Q (by rw [HD0.out]; omega) (by rw [HD0.out, HQ.out]; omega) y x HY1.out HX1.out
                have K1 : Kept b w (((v2.setCell ⟨b, o + k1, none⟩ (.int .u64 y)).setCell ⟨b, o + Q, none⟩ (.int .u64 x)).drew) := hk'2.out.trans (kept_twod _ _ _ _)
                generalize ((v2.setCell ⟨b, o + k1, none⟩ (.int .u64 y)).setCell ⟨b, o + Q, none⟩ (.int .u64 x)).drew = v6 at *
                obtain ⟨D6, hD6⟩ : ∃ D6, D6 = Sort.swp D k1 Q := ⟨_, rfl⟩
                rw [← hD6] at D1
                have HD6 : Hid (D6.size = n) := by rw [hD6]; exact (Sort.size_swp _ _ _).trans HD0.out
                have HQ6 : Hid (Sort.swp D k1 (t + 1) = D6) := by
                  show Sort.swp D k1 (t + 1) = D6
                  rw [hD6, HQ.out]
                have HX6 : Hid (Srow v6 b o m D6) := D1
                have HK6 : Hid (Kept b w v6) := K1
                obtain ⟨kE, E, hE⟩ : ∃ kE E, Sort.partLoop Sort.ltInt a (k1 + 1) t D6 = (kE, E) := ⟨_, _, rfl⟩
                have HE : Hid (Sort.partLoop Sort.ltInt a (k1 + 1) t D6 = (kE, E)) := hE
                clear D1 K1 hD6 HX1 HY1 c1 c2 c4 f1 f2 hE
                go_loopw [10, 11] (fun i j wr => ∃ (i0 j0 : Nat) (D3 : Array Int), i = .int .i64 i0 ∧ j = .int .i64 j0 ∧ a + 1 ≤ i0 ∧ i0 ≤ j0 + 1 ∧ j0 ≤ J ∧ Hid (D3.size = n) ∧ Hid (Srow wr b o m D3) ∧ Hid (Kept b w wr) ∧ Hid (Sort.partLoop Sort.ltInt a i0 j0 D3 = (kE, E))) (fun i j _ => (intOf j + 1 - intOf i).toNat)
                case atStart => exact ⟨k1 + 1, t, D6, by go_num, rfl, by omega, by omega, by omega, HD6, HX6, HK6, HE⟩
                case round =>
                  obtain ⟨i3, j3, D3, rfl, rfl, g13, g23, g33, hd3, hx3, hk3, ho3⟩ := hrel
                  go_wp2_with fail
                  generalize wr = v3 at *
                  go_loopw [10] (fun i wr => ∃ k : Nat, i = .int .i64 k ∧ i3 ≤ k ∧ k ≤ j3 + 1 ∧ Hid (Srow wr b o m D3) ∧ Hid (Kept b w wr) ∧ Hid (Sort.scanUp (fun x => Sort.ltInt x D3[a]!) D3 j3 k = Sort.scanUp (fun x => Sort.ltInt x D3[a]!) D3 j3 (i3))) (fun i _ => j3 + 1 - (intOf i).toNat)
                  case atStart => exact ⟨i3, by go_num, Nat.le_refl _, by omega, hx3, hk3, rfl⟩
                  case round =>
                    obtain ⟨k4, rfl, g14, g24, hx4, hk4, ho4⟩ := hrel
                    go_upto_region 13 with fail
                    go_cut [112] from 99 to 114 (fun t wc => ∃ B : Bool, t = .bool B ∧ Hid (B = decide (k4 ≤ j3 ∧ D3[k4]! < D3[a]!)) ∧ Hid (Srow wc b o m D3) ∧ Hid (Kept b w wc))
                    case first =>
                      by_cases hk : k4 ≤ j3
                      · obtain ⟨x, hx⟩ : ∃ x, x = D3[k4]! := ⟨_, rfl⟩
                        obtain ⟨y, hy⟩ : ∃ y, y = D3[a]! := ⟨_, rfl⟩
                        have s2 := hd3.out
                        have c1 : wr.cell? ⟨b, o + k4, none⟩ = some (.int .u64 x) := hx ▸ hx4.out.cell k4 (by omega)
                        have c2 : wr.cell? ⟨b, o + a, none⟩ = some (.int .u64 y) := hy ▸ hx4.out.cell a (by omega)
                        have HX1 : Hid (x = D3[k4]!) := hx
                        have HY1 : Hid (y = D3[a]!) := hy
                        have i1 : (k4 : Int) ≤ (j3 : Int) := by omega
                        have i2 : (k4 : Int) < (n : Int) := by omega
                        have i3 : (a : Int) < (n : Int) := by omega
                        clear hx hy s2
                        go_wp2_with fail
                        go_quiet ((go_at_call 26; exact Calls.quiet_of_same (sless_any _ _ _)))
                        go_wp2_with fail
                        go_meet
                        case rel =>
                          refine ⟨_, rfl, ?_, hx4.out.same ⟨_, rfl⟩, hk4.out.trans (Kept.of_same ⟨_, rfl⟩)⟩
                          show decide _ = decide _
                          rw [decide_eq_decide, ← HX1.out, ← HY1.out]
                          exact ⟨fun h => ⟨hk, h⟩, fun h => h.2⟩
                      · have i1 : decide ((k4 : Int) ≤ (j3 : Int)) = false := by simp; omega
                        have i2 : decide (k4 ≤ j3) = false := by simp; omega
                        have HN : Hid (¬ k4 ≤ j3) := hk
                        clear hk
                        go_wp2_with fail
                        go_quiet ((go_at_call 26; exact Calls.quiet_of_same (sless_any _ _ _)))
                        go_wp2_with fail
                        go_meet
                        case rel => exact ⟨_, rfl, (decide_eq_false (fun h => HN.out h.1)).symm, hx4.out.same ⟨_, rfl⟩, hk4.out.trans (Kept.of_same ⟨_, rfl⟩)⟩
                    case rest =>
                      obtain ⟨B, rfl, hB4, hx'4, hk'4⟩ := hcut
                      generalize wc = v4 at *
                      have hb4 := hB4.out
                      cases B
                      · have hn4 := of_decide_eq_false hb4.symm
                        have F4 : Hid (¬ (k4 ≤ j3 ∧ D3[k4]! < D3[a]!)) := hn4
                        have N4 : Hid (Sort.scanUp (fun x => Sort.ltInt x D3[a]!) D3 j3 (i3) = k4) := ho4.out.symm.trans (up_stop _ _ _ _ (fun h => decide_eq_false (fun g => hn4 ⟨h, g⟩)))
                        clear hn4 hb4 hB4 ho4
                        go_wp2_with fail
                        go_loopw [11] (fun j wr => ∃ q : Nat, j = .int .i64 q ∧ k4 ≤ q + 1 ∧ q ≤ j3 ∧ Hid (Srow wr b o m D3) ∧ Hid (Kept b w wr) ∧ Hid (Sort.scanDown (fun x => !Sort.ltInt x D3[a]!) D3 k4 q = Sort.scanDown (fun x => !Sort.ltInt x D3[a]!) D3 k4 j3)) (fun j _ => (intOf j).toNat)
                        case atStart => exact ⟨j3, by go_num, by omega, Nat.le_refl _, hx'4, hk'4, rfl⟩
                        case round =>
                          obtain ⟨q5, rfl, g15, g25, hx5, hk5, ho5⟩ := hrel
                          go_upto_region 15 with fail
                          go_cut [129] from 115 to 131 (fun t wc => ∃ B : Bool, t = .bool B ∧ Hid (B = decide (k4 ≤ q5 ∧ ¬ D3[q5]! < D3[a]!)) ∧ Hid (Srow wc b o m D3) ∧ Hid (Kept b w wc))
                          case first =>
                            by_cases hk : k4 ≤ q5
                            · obtain ⟨x, hx⟩ : ∃ x, x = D3[q5]! := ⟨_, rfl⟩
                              obtain ⟨y, hy⟩ : ∃ y, y = D3[a]! := ⟨_, rfl⟩
                              have s2 := hd3.out
                              have c1 : wr.cell? ⟨b, o + q5, none⟩ = some (.int .u64 x) := hx ▸ hx5.out.cell q5 (by omega)
                              have c2 : wr.cell? ⟨b, o + a, none⟩ = some (.int .u64 y) := hy ▸ hx5.out.cell a (by omega)
                              have HX1 : Hid (x = D3[q5]!) := hx
                              have HY1 : Hid (y = D3[a]!) := hy
                              have i1 : (k4 : Int) ≤ (q5 : Int) := by omega
                              have i2 : (q5 : Int) < (n : Int) := by omega
                              have i3 : (a : Int) < (n : Int) := by omega
                              have HQ : Hid (k4 ≤ q5) := hk
                              clear hx hy s2
                              by_cases hl : x < y
                              · have l1 : decide (x < y) = true := by simpa using hl
                                have HL : Hid (x < y) := hl
                                go_wp2_with fail
                                go_quiet ((go_at_call 26; exact Calls.quiet_of_same (sless_any _ _ _)))
                                go_wp2_with fail
                                go_meet
                                case rel =>
                                  refine ⟨_, rfl, ?_, hx5.out.same ⟨_, rfl⟩, hk5.out.trans (Kept.of_same ⟨_, rfl⟩)⟩
                                  show false = decide _
                                  rw [decide_eq_false]
                                  rw [← HX1.out, ← HY1.out]
                                  exact fun h => by have := h.2; have := HL.out; omega
                              · have l1 : decide (x < y) = false := by simpa using hl
                                have HL : Hid (¬ x < y) := hl
                                go_wp2_with fail
                                go_quiet ((go_at_call 26; exact Calls.quiet_of_same (sless_any _ _ _)))
                                go_wp2_with fail
                                go_meet
                                case rel =>
                                  refine ⟨_, rfl, ?_, hx5.out.same ⟨_, rfl⟩, hk5.out.trans (Kept.of_same ⟨_, rfl⟩)⟩
                                  show true = decide _
                                  rw [decide_eq_true]
                                  rw [← HX1.out, ← HY1.out]
                                  exact ⟨HQ.out, HL.out⟩
                            · have i1 : decide ((k4 : Int) ≤ (q5 : Int)) = false := by simp; omega
                              have i2 : decide (k4 ≤ q5) = false := by simp; omega
                              have HN : Hid (¬ k4 ≤ q5) := hk
                              clear hk
                              go_wp2_with fail
                              go_quiet ((go_at_call 26; exact Calls.quiet_of_same (sless_any _ _ _)))
                              go_wp2_with fail
                              go_meet
                              case rel => exact ⟨_, rfl, (decide_eq_false (fun h => HN.out h.1)).symm, hx5.out.same ⟨_, rfl⟩, hk5.out.trans (Kept.of_same ⟨_, rfl⟩)⟩
                          case rest =>
                            obtain ⟨B, rfl, hB5, hx'5, hk'5⟩ := hcut
                            generalize wc = v5 at *
                            have hb5 := hB5.out
                            cases B
                            · have hn5 := of_decide_eq_false hb5.symm
                              have F5 : Hid (¬ (k4 ≤ q5 ∧ ¬ D3[q5]! < D3[a]!)) := hn5
                              have N5 : Hid (Sort.scanDown (fun x => !Sort.ltInt x D3[a]!) D3 k4 j3 = q5) := ho5.out.symm.trans (down_stop0 _ _ _ _ (fun h => by rw [Bool.not_eq_false']; exact decide_eq_true (Decidable.byContradiction fun g => hn5 ⟨h, g⟩)))
                              clear hn5 hb5 hB5 ho5
                              by_cases hlt0 : q5 < k4
                              · have H45 : Hid (q5 < k4) := hlt0
                                obtain ⟨x, hx⟩ : ∃ x, x = D3[q5]! := ⟨_, rfl⟩
                                obtain ⟨y, hy⟩ : ∃ y, y = D3[a]! := ⟨_, rfl⟩
                                have s2 := hd3.out
                                have c1 : v5.cell? ⟨b, o + q5, none⟩ = some (.int .u64 x) := hx ▸ hx'5.out.cell q5 (by omega)
                                have c2 : v5.cell? ⟨b, o + a, none⟩ = some (.int .u64 y) := hy ▸ hx'5.out.cell a (by omega)
                                have f1 : v5.frozen? ⟨b, o + q5, none⟩ = false := hx'5.out.thaw _
                                have f2 : v5.frozen? ⟨b, o + a, none⟩ = false := hx'5.out.thaw _
                                obtain ⟨u, c4⟩ : ∃ u, (v5.setCell ⟨b, o + q5, none⟩ (.int .u64 y)).cell? ⟨b, o + a, none⟩ = some u := cell_after c2 _ _
                                have HX1 : Hid (x = D3[q5]!) := hx
                                have HY1 : Hid (y = D3[a]!) := hy
                                have i2 : (q5 : Int) < (n : Int) := by omega
                                have i3 : (a : Int) < (n : Int) := by omega
                                clear hx hy s2
                                have hlt : (q5 : Int) < (k4 : Int) := by omega
                                go_wp2_with fail
                                go_region
                                go_wp2
                                go_ret2
                                rw [prt_go (k := q5) (E := D3) HDD.out N1.out N2.out H12.out (by rw [Nat.add_sub_cancel, HQ6.out, HE.out, ← ho3.out, loop_stop N4.out N5.out H45.out])]
                                exact ⟨rfl, hx'5.out.swapd q5 a (by rw [hd3.out]; omega) (by rw [hd3.out]; omega) y x HY1.out HX1.out, hk'5.out.trans (kept_twod _ _ _ _)⟩
                              · have H45 : Hid (k4 ≤ q5) := by show k4 ≤ q5; omega
                                have L45 : k4 < q5 := by
                                  by_cases e : k4 = q5
                                  · exfalso
                                    have := F4.out
                                    have := F5.out
                                    subst e
                                    by_cases g : D3[k4]! < D3[a]!
                                    · exact F4.out ⟨g25, g⟩
                                    · exact F5.out ⟨Nat.le_refl _, by omega⟩
                                  · omega
                                obtain ⟨t, rfl⟩ : ∃ t, q5 = t + 1 := ⟨q5 - 1, by omega⟩
                                obtain ⟨Q, hQ⟩ : ∃ Q, Q = t + 1 := ⟨_, rfl⟩
                                have HQ : Hid (Q = t + 1) := hQ
                                obtain ⟨x, hx⟩ : ∃ x, x = D3[k4]! := ⟨_, rfl⟩
                                obtain ⟨y, hy⟩ : ∃ y, y = D3[Q]! := ⟨_, rfl⟩
                                have s2 := hd3.out
                                have c1 : v5.cell? ⟨b, o + k4, none⟩ = some (.int .u64 x) := hx ▸ hx'5.out.cell k4 (by omega)
                                have c2 : v5.cell? ⟨b, o + Q, none⟩ = some (.int .u64 y) := hy ▸ hx'5.out.cell Q (by omega)
                                have f1 : v5.frozen? ⟨b, o + k4, none⟩ = false := hx'5.out.thaw _
                                have f2 : v5.frozen? ⟨b, o + Q, none⟩ = false := hx'5.out.thaw _
                                obtain ⟨u, c4⟩ : ∃ u, (v5.setCell ⟨b, o + k4, none⟩ (.int .u64 y)).cell? ⟨b, o + Q, none⟩ = some u := cell_after c2 _ _
                                have HX1 : Hid (x = D3[k4]!) := hx
                                have HY1 : Hid (y = D3[Q]!) := hy
                                have i2 : (k4 : Int) < (n : Int) := by omega
                                have i3 : (Q : Int) < (n : Int) := by omega
                                clear hx hy s2
                                have e1 : (Q : Int) - 1 = (t : Int) := by omega
                                have e2 : ((t + 1 : Nat) : Int) = (Q : Int) := by omega
                                have hlt : decide ((Q : Int) < (k4 : Int)) = false := by simp; omega
                                rw [e2]
                                clear hQ e2
                                go_wp2_with fail
                                go_region
                                go_wp2_with fail
                                go_roundw
                                case rel =>
                                  obtain rfl := HQ.out
                                  exact ⟨k4 + 1, t, Sort.swp D3 k4 (t + 1), by go_num, rfl, by omega, by omega, by omega, (Sort.size_swp _ _ _).trans hd3.out, hx'5.out.swapd k4 (t + 1) (by rw [hd3.out]; omega) (by rw [hd3.out]; omega) y x HY1.out HX1.out, hk'5.out.trans (kept_twod _ _ _ _), (loop_go N4.out N5.out H45.out (by omega) (by omega)).symm.trans ho3.out⟩
                                case measure => simp [intOf]; omega
                            · have hn5 := of_decide_eq_true hb5.symm
                              have F5 : Hid (k4 ≤ q5 ∧ ¬ D3[q5]! < D3[a]!) := hn5
                              have f5 := hn5.1
                              clear hn5 hb5 hB5
                              obtain ⟨t, rfl⟩ : ∃ t, q5 = t + 1 := ⟨q5 - 1, by omega⟩
                              have e1 : ((t + 1 : Nat) : Int) - 1 = (t : Int) := by omega
                              go_wp2_with fail
                              go_roundw
                              case rel => exact ⟨t, by go_num, by omega, by omega, hx'5, hk'5, (down_go _ _ _ _ F5.out.1 (by rw [Bool.not_eq_true']; exact decide_eq_false F5.out.2)).symm.trans ho5.out⟩
                              case measure => simp [intOf]
                      · have hn4 := of_decide_eq_true hb4.symm
                        have F4 : Hid (k4 ≤ j3 ∧ D3[k4]! < D3[a]!) := hn4
                        have f4 := hn4.1
                        clear hn4 hb4 hB4
                        go_wp2_with fail
                        go_roundw
                        case rel => exact ⟨k4 + 1, by go_num, by omega, by omega, hx'4, hk'4, (up_go _ _ _ _ F4.out.1 (decide_eq_true F4.out.2)).symm.trans ho4.out⟩
                        case measure => simp [intOf]; omega
            · have hn2 := of_decide_eq_true hb2.symm
              have F2 : Hid (k1 ≤ q2 ∧ ¬ D[q2]! < D[a]!) := hn2
              have f2 := hn2.1
              clear hn2 hb2 hB2
              obtain ⟨t, rfl⟩ : ∃ t, q2 = t + 1 := ⟨q2 - 1, by omega⟩
              have e1 : ((t + 1 : Nat) : Int) - 1 = (t : Int) := by omega
              go_wp2_with fail
              go_roundw
              case rel => exact ⟨t, by go_num, by omega, by omega, hx'2, hk'2, (down_go _ _ _ _ F2.out.1 (by rw [Bool.not_eq_true']; exact decide_eq_false F2.out.2)).symm.trans ho2.out⟩
              case measure => simp [intOf]
      · have hn1 := of_decide_eq_true hb1.symm
        have F1 : Hid (k1 ≤ J ∧ D[k1]! < D[a]!) := hn1
        have f1 := hn1.1
        clear hn1 hb1 hB1
        go_wp2_with fail
        go_roundw
        case rel => exact ⟨k1 + 1, by go_num, by omega, by omega, hx'1, hk'1, (up_go _ _ _ _ F1.out.1 (decide_eq_true F1.out.2)).symm.trans ho1.out⟩
        case measure => simp [intOf]; omega
end Go.Proofs.Ytalfncnpffbmmaa

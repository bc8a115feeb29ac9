/-
  The library's Sort of a row of at most 49 uint64.
-/
import Derived.Test.YtalfncnpffbmmaaSa3
import Derived.Test.YtalfncnpffbmmaaSa7
import Derived.Test.YtalfncnpffbmmaaSa8
namespace Go.Proofs.Ytalfncnpffbmmaa
open Go.RowKit Go.Deep

/-- d is sorted from a to z: R. -/
def SortTo (a z : Nat) (d R : Array Int) : Prop := Sort.PermIn a z d R ∧ Sort.SortedIn Sort.ltInt a z R
/-- What the sort leaves. -/
def Sorted (b o m a z : Nat) (d : Array Int) (w : World) (e : Ending) (w' : World) : Prop := e = .returned (.tuple #[]) ∧ ∃ R, Srow w' b o m R ∧ SortTo a z d R ∧ Kept b w w'
theorem hint_two (d : Array Int) (a z : Nat) (h1 : 12 < z - a) (h2 : z - a < 50) : (Sort.choosePivot Sort.ltInt d a z).2 = .increasing ∨ (Sort.choosePivot Sort.ltInt d a z).2 = .unknown := by
  rw [piv_eq d a z h1 h2]
  show (if _ then _ else _) = _ ∨ _
  split
  · exact Or.inl rfl
  · exact Or.inr rfl
set_option maxRecDepth 100000 in
set_option maxHeartbeats 4000000 in
theorem spdq_any (L : Nat) : ∀ (b o m c n a z l : Nat) (d : Array Int) (w : World), z - a ≤ L → a ≤ z → z ≤ n → n < 50 → d.size = n → Srow w b o m d → Sort.Below Sort.ltInt a z d → l ≤ 1000 →
    Calls Try.prog 22 #[.slice (some ⟨b, o, none⟩) n c, .int .i64 (a : Int), .int .i64 (z : Int), .int .i64 (l : Int)] w (Sorted b o m a z d w) := by
  induction L using Nat.strongRecOn with
  | ind L ih =>
  intro b o m c n a z l d w hL haz hz hn hd hx hb hl
  have IH : Hid (∀ (M : Nat), M < L → ∀ (b o m c n a z l : Nat) (d : Array Int) (w : World), z - a ≤ M → a ≤ z → z ≤ n → n < 50 → d.size = n → Srow w b o m d → Sort.Below Sort.ltInt a z d → l ≤ 1000 →
    Calls Try.prog 22 #[.slice (some ⟨b, o, none⟩) n c, .int .i64 (a : Int), .int .i64 (z : Int), .int .i64 (l : Int)] w (Sorted b o m a z d w)) := ih
  have HD : Hid (d.size = n) := hd
  have HX : Hid (Srow w b o m d) := hx
  have HB : Hid (Sort.Below Sort.ltInt a z d) := hb
  clear ih hd hx hb
  go_enter Try.func22, Try.ntmps22
  go_wp2_with fail
  go_loopw [1, 2, 3, 8, 9] (fun s1 s2 s3 s8 s9 wr => ∃ (a1 z1 l1 : Nat) (wb wp : Bool) (d1 : Array Int), s1 = .int .i64 a1 ∧ s2 = .int .i64 z1 ∧ s3 = .int .i64 l1 ∧ s8 = .bool wb ∧ s9 = .bool wp ∧ a ≤ a1 ∧ a1 ≤ z1 ∧ z1 ≤ z ∧ l1 ≤ 1000 ∧ Hid (d1.size = n) ∧ Hid (Srow wr b o m d1) ∧ Hid (Kept b w wr) ∧ Hid (Sort.Below Sort.ltInt a1 z1 d1) ∧ Hid (∀ R, Sort.PermIn a1 z1 d1 R → Sort.SortedIn Sort.ltInt a1 z1 R → SortTo a z d R)) (fun s1 s2 _ _ _ _ => (intOf s2 - intOf s1).toNat)
  case atStart => exact ⟨a, z, l, true, true, d, rfl, rfl, rfl, rfl, rfl, Nat.le_refl _, haz, Nat.le_refl _, hl, HD, HX, Kept.refl _ _, HB, fun R h1 h2 => ⟨h1, h2⟩⟩
  case round =>
    obtain ⟨a1, z1, l1, wb, wp, d1, rfl, rfl, rfl, rfl, rfl, g1, g2, g3, g4, hd1, hx1, hk1, hb1, hc1⟩ := hrel
    obtain ⟨t, ht⟩ : ∃ t, t = z1 - a1 := ⟨_, rfl⟩
    have e0 : (z1 : Int) - (a1 : Int) = (t : Int) := by omega
    have ht2 : a1 + t = z1 := by omega
    have hlt : t ≤ L := by omega
    have ht5 : t < 50 := by omega
    clear ht
    by_cases h12 : t ≤ 12
    · have i1 : (t : Int) ≤ 12 := by omega
      go_wp2_with fail
      refine (sins_any b o m c n a1 z1 d1 wr g2 (by omega) (by omega) hd1 hx1).mono ?_
      rintro e w2 ⟨rfl, X2, K2⟩
      have P := Sort.insertionSort_holds Sort.swo_ltInt d1 a1 z1 g2 (by rw [hd1.out]; omega)
      have H2 : Hid (Srow w2 b o m (Sort.insertionSort Sort.ltInt d1 a1 z1) ∧ SortTo a z d (Sort.insertionSort Sort.ltInt d1 a1 z1) ∧ Kept b w w2) := ⟨X2, hc1.out _ P.1 P.2, hk1.out.trans K2⟩
      clear X2 K2 P
      go_wp2
      exact bodyPost_ret (results_none Try.results22 _ _ _) rfl ⟨rfl, _, H2.out⟩
    · have i1 : decide ((t : Int) ≤ 12) = false := by simp; omega
      have h13 : 12 < t := by omega
      clear h12
      cases l1 with
      | zero =>
        go_wp2_with fail
        refine (sheap_any b o m c n a1 z1 d1 wr (by omega) (by omega) (by omega) hd1 hx1).mono ?_
        rintro e w2 ⟨rfl, X2, K2⟩
        have P := Sort.heapSort_holds Sort.swo_ltInt d1 a1 z1 g2 (by rw [hd1.out]; omega)
        have H2 : Hid (Srow w2 b o m (Sort.heapSort Sort.ltInt d1 a1 z1) ∧ SortTo a z d (Sort.heapSort Sort.ltInt d1 a1 z1) ∧ Kept b w w2) := ⟨X2, hc1.out _ P.1 P.2, hk1.out.trans K2⟩
        clear X2 K2 P
        go_wp2
        exact bodyPost_ret (results_none Try.results22 _ _ _) rfl ⟨rfl, _, H2.out⟩
      | succ l0 =>
        obtain ⟨l1, hl1⟩ : ∃ l1, l1 = l0 + 1 := ⟨_, rfl⟩
        rw [← hl1] at g4 ⊢
        have e1 : (l1 : Int) - 1 = (l0 : Int) := by omega
        have i2 : ((l1 : Int) == 0) = false := by simp; omega
        clear hl1
        go_upto_if 35 with fail
        go_cut [3] from 36 to 41 (fun s wc => ∃ (l2 : Nat) (d2 : Array Int), s = .int .i64 l2 ∧ l2 ≤ 1000 ∧ Hid (d2.size = n) ∧ Hid (Srow wc b o m d2) ∧ Hid (Kept b w wc) ∧ Hid (Sort.PermIn a1 z1 d1 d2))
        case first =>
          cases wb
          · go_wp2_with fail
            refine (sbrk_any b o m c n a1 z1 d1 wr (by omega) (by omega) (by omega) (by omega) hd1 hx1).mono ?_
            rintro e w2 ⟨rfl, d2, X2, P2, K2⟩
            have H2 : Hid (Srow w2 b o m d2 ∧ Kept b w w2 ∧ Sort.PermIn a1 z1 d1 d2) := ⟨X2, hk1.out.trans K2, P2⟩
            clear X2 K2 P2
            go_wp2_with fail
            go_meet
            case rel => exact ⟨l0, d2, rfl, by omega, H2.out.2.2.1.trans hd1.out, H2.out.1, H2.out.2.1, H2.out.2.2⟩
          · go_wp2_with fail
            go_meet
            case rel => exact ⟨l1, d1, rfl, by omega, hd1, hx1, hk1, Sort.permIn_refl _ _ _⟩
        case rest =>
          obtain ⟨l2, d2, rfl, g5, hd2, hx2, hk2, hp2⟩ := hcut
          generalize wc = v1 at *
          have hb2 : Hid (Sort.Below Sort.ltInt a1 z1 d2) := hb1.out.perm (by rw [hd1.out]; omega) hp2.out
          have hc2 : Hid (∀ R, Sort.PermIn a1 z1 d2 R → Sort.SortedIn Sort.ltInt a1 z1 R → SortTo a z d R) := fun R h1 h2 => hc1.out R (Sort.permIn_trans _ _ _ _ _ hp2.out h1) h2
          clear hc1 hb1 hx1 hk1 hp2 hd1
          go_wp2_with fail
          refine (spiv_any b o m c n a1 z1 d2 v1 (by omega) (by omega) (by omega) (by omega) hd2 hx2).mono ?_
          rintro e v2 ⟨rfl, B3⟩
          have P3 := Sort.choosePivot_holds Sort.ltInt d2 a1 z1 (by omega)
          have P4 := hint_two d2 a1 z1 (by omega) (by omega)
          obtain ⟨p, hp⟩ : ∃ p, (Sort.choosePivot Sort.ltInt d2 a1 z1).1 = p := ⟨_, rfl⟩
          obtain ⟨hi, hhi⟩ : ∃ hi, (Sort.choosePivot Sort.ltInt d2 a1 z1).2 = hi := ⟨_, rfl⟩
          rw [hp] at P3 ⊢
          rw [hhi] at P4 ⊢
          obtain ⟨p1, p2⟩ := P3
          have hx3 : Hid (Srow v2 b o m d2) := hx2.out.grew B3
          have hk3 : Hid (Kept b w v2) := hk2.out.trans (Kept.of_below B3)
          obtain ⟨hv, hhv, hv2⟩ : ∃ hv : Int, hintN hi = hv ∧ (hv = 1 ∨ hv = 0) := ⟨_, rfl, by rcases P4 with rfl | rfl; exact Or.inl rfl; exact Or.inr rfl⟩
          rw [hhv]
          have i3 : (hv == 2) = false := by rcases hv2 with rfl | rfl <;> rfl
          clear hp hhi B3 hx2 hk2 P4 hhv
          have HV : Hid (hv = 1 ∨ hv = 0) := hv2
          clear hv2
          go_upto_region 15 with fail
          go_cut [68] from 61 to 68 (fun s wc => ∃ B : Bool, s = .bool B ∧ wc = v2)
          case first =>
            rcases HV.out with rfl | rfl
            · cases wb
              · go_wp2_with fail
                go_meet
                case rel => exact ⟨_, rfl, rfl⟩
              · cases wp
                · go_wp2_with fail
                  go_meet
                  case rel => exact ⟨_, rfl, rfl⟩
                · go_wp2_with fail
                  go_meet
                  case rel => exact ⟨_, rfl, rfl⟩
            · cases wb
              · go_wp2_with fail
                go_meet
                case rel => exact ⟨_, rfl, rfl⟩
              · cases wp
                · go_wp2_with fail
                  go_meet
                  case rel => exact ⟨_, rfl, rfl⟩
                · go_wp2_with fail
                  go_meet
                  case rel => exact ⟨_, rfl, rfl⟩
          case rest =>
            obtain ⟨B, rfl, hw⟩ := hcut
            subst hw
            generalize wc = v2 at *
            go_upto_if 68 with fail
            go_cut [] from 69 to 72 (fun wc => Hid (Srow wc b o m d2) ∧ Hid (Kept b w wc))
            case first =>
              cases B
              · go_wp2_with fail
                go_meet
                case rel => exact ⟨hx3, hk3⟩
              · go_wp2_with fail
                refine (spar_any b o m c n a1 z1 d2 v2 (by omega) (by omega) (by omega) (by omega) hd2 hx3).mono ?_
                rintro e v3 ⟨rfl, S3⟩
                have HS3 : Hid (Same v2 v3) := S3
                obtain ⟨Q, hQ⟩ : ∃ Q, (Sort.partialInsertionSort Sort.ltInt d2 a1 z1).2 = Q := ⟨_, rfl⟩
                have hD : (Sort.partialInsertionSort Sort.ltInt d2 a1 z1).1 = d2 := by rw [part_eq d2 a1 z1 (by omega)]
                have P5 := (Sort.partialInsertionSort_holds Sort.swo_ltInt d2 a1 z1 (by omega) (by rw [hd2.out]; omega) hb2.out).2
                rw [hD, hQ] at P5
                rw [hQ]
                have HP5 : Hid (Q = true → Sort.SortedIn Sort.ltInt a1 z1 d2) := P5
                clear S3 hQ hD P5
                cases Q
                · go_wp2_with fail
                  go_meet
                  case rel => exact ⟨hx3.out.same HS3.out, hk3.out.trans (Kept.of_same HS3.out)⟩
                · have H2 : Hid (Srow v3 b o m d2 ∧ SortTo a z d d2 ∧ Kept b w v3) := ⟨hx3.out.same HS3.out, hc2.out _ (Sort.permIn_refl _ _ _) (HP5.out rfl), hk3.out.trans (Kept.of_same HS3.out)⟩
                  go_wp2
                  exact bodyPost_ret (results_none Try.results22 _ _ _) rfl ⟨rfl, _, H2.out⟩
            case rest =>
              obtain ⟨hx4, hk4⟩ := hcut
              clear hx3 hk3
              generalize wc = v4 at *
              go_upto_region 17 with fail
              go_cut [87] from 73 to 87 (fun s wc => ∃ B : Bool, s = .bool B ∧ Hid (B = decide (0 < a1 ∧ ¬ d2[a1 - 1]! < d2[p]!)) ∧ Hid (Srow wc b o m d2) ∧ Hid (Kept b w wc))
              case first =>
                by_cases hk : 0 < a1
                · obtain ⟨q, hq⟩ : ∃ q, q = a1 - 1 := ⟨_, rfl⟩
                  obtain ⟨x, hx⟩ : ∃ x, x = d2[a1 - 1]! := ⟨_, rfl⟩
                  obtain ⟨y, hy⟩ : ∃ y, y = d2[p]! := ⟨_, rfl⟩
                  have s2 := hd2.out
                  have c1 : v4.cell? ⟨b, o + q, none⟩ = some (.int .u64 x) := by rw [hq, hx]; exact hx4.out.cell (a1 - 1) (by omega)
                  have c2 : v4.cell? ⟨b, o + p, none⟩ = some (.int .u64 y) := by rw [hy]; exact hx4.out.cell p (by omega)
                  have HX1 : Hid (x = d2[a1 - 1]!) := hx
                  have HY1 : Hid (y = d2[p]!) := hy
                  have HQ : Hid (0 < a1) := hk
                  have i5 : (0 : Int) < (a1 : Int) := by omega
                  have e2 : (a1 : Int) - 1 = (q : Int) := by omega
                  have i6 : (q : Int) < (n : Int) := by omega
                  have i7 : (p : Int) < (n : Int) := by omega
                  clear hx hy s2 hq
                  by_cases hl : x < y
                  · have l1 : decide (x < y) = true := by simpa using hl
                    have HL : Hid (x < y) := hl
                    go_wp2_with fail
                    go_quiet ((go_at_call 26; exact Calls.quiet_of_same (sless_any _ _ _)))
                    go_wp2_with fail
                    go_meet
                    case rel =>
                      refine ⟨_, rfl, ?_, hx4.out.same ⟨_, rfl⟩, hk4.out.trans (Kept.of_same ⟨_, rfl⟩)⟩
                      show false = decide _
                      rw [decide_eq_false]
                      rw [← HX1.out, ← HY1.out]
                      exact fun h => by have := h.2; have := HL.out; omega
                  · have l1 : decide (x < y) = false := by simpa using hl
                    have HL : Hid (¬ x < y) := hl
                    go_wp2_with fail
                    go_quiet ((go_at_call 26; exact Calls.quiet_of_same (sless_any _ _ _)))
                    go_wp2_with fail
                    go_meet
                    case rel =>
                      refine ⟨_, rfl, ?_, hx4.out.same ⟨_, rfl⟩, hk4.out.trans (Kept.of_same ⟨_, rfl⟩)⟩
                      show true = decide _
                      rw [decide_eq_true]
                      rw [← HX1.out, ← HY1.out]
                      exact ⟨HQ.out, HL.out⟩
                · obtain rfl : a1 = 0 := by omega
                  have HN : Hid (¬ 0 < 0) := by show ¬ 0 < 0; omega
                  go_wp2_with fail
                  go_quiet ((go_at_call 26; exact Calls.quiet_of_same (sless_any _ _ _)))
                  go_wp2_with fail
                  go_meet
                  case rel => exact ⟨_, rfl, (decide_eq_false (fun h => absurd h.1 (by omega))).symm, hx4.out.same ⟨_, rfl⟩, hk4.out.trans (Kept.of_same ⟨_, rfl⟩)⟩
              case rest =>
                obtain ⟨B, rfl, hB, hx5, hk5⟩ := hcut
                generalize wc = v5 at *
                have hbB := hB.out
                clear hx4 hk4 hB
                cases B
                · clear hbB
                  go_wp2_with fail
                  refine (sprt_any b o m c n a1 z1 p d2 v5 p1 p2 (by omega) (by omega) hd2 hx5).mono ?_
                  rintro e v6 ⟨rfl, X6, K6⟩
                  obtain ⟨mid, ap, d4, h4⟩ : ∃ mid ap d4, Sort.partition Sort.ltInt d2 a1 z1 p = (mid, ap, d4) := ⟨_, _, _, rfl⟩
                  obtain ⟨m1, m2, m3, m4, m5, m6, m7⟩ := Sort.round_part Sort.swo_ltInt (Sort.partition_holds _) p1 p2 (by rw [hd2.out]; omega) hb2.out h4
                  rw [h4] at X6 ⊢
                  have hx6 : Hid (Srow v6 b o m d4) := X6
                  have hk6 : Hid (Kept b w v6) := hk5.out.trans K6
                  have hd4 : Hid (d4.size = n) := m3.trans hd2.out
                  have M4 : Hid (Sort.Below Sort.ltInt a1 mid d4) := m4
                  have M5 : Hid (Sort.Below Sort.ltInt (mid + 1) z1 d4) := m5
                  have M6 : Hid (∀ L, Sort.PermIn a1 mid d4 L → Sort.SortedIn Sort.ltInt a1 mid L → Sort.Below Sort.ltInt (mid + 1) z1 L ∧ ∀ R, Sort.PermIn (mid + 1) z1 L R → Sort.SortedIn Sort.ltInt (mid + 1) z1 R → Sort.PermIn a1 z1 d2 R ∧ Sort.SortedIn Sort.ltInt a1 z1 R) := m6
                  have M7 : Hid (∀ L, Sort.PermIn (mid + 1) z1 d4 L → Sort.SortedIn Sort.ltInt (mid + 1) z1 L → Sort.Below Sort.ltInt a1 mid L ∧ ∀ R, Sort.PermIn a1 mid L R → Sort.SortedIn Sort.ltInt a1 mid R → Sort.PermIn a1 z1 d2 R ∧ Sort.SortedIn Sort.ltInt a1 z1 R) := m7
                  clear X6 K6 h4 m3 m4 m5 m6 m7 hx5 hk5
                  obtain ⟨u, hu⟩ : ∃ u, a1 + u = mid := ⟨mid - a1, by omega⟩
                  obtain ⟨r, hr⟩ : ∃ r, mid + r = z1 := ⟨z1 - mid, by omega⟩
                  obtain ⟨q8, hq8⟩ : ∃ q, q = t / 8 := ⟨_, rfl⟩
                  have e2 : (mid : Int) - (a1 : Int) = (u : Int) := by omega
                  have e3 : (z1 : Int) - (mid : Int) = (r : Int) := by omega
                  have e4 : (t : Int).tdiv 8 = (q8 : Int) := by
                    rw [Int.tdiv_eq_ediv_of_nonneg (by omega)]
                    omega
                  have e5 : (t : Int) / 8 = (q8 : Int) := by omega
                  have e6 : ((mid + 1 : Nat) : Int) = (mid : Int) + 1 := by omega
                  clear hq8
                  by_cases hur : u < r
                  · have i5 : (u : Int) < (r : Int) := by omega
                    obtain ⟨B2, hB2⟩ : ∃ B : Bool, decide ((q8 : Int) ≤ (u : Int)) = B := ⟨_, rfl⟩
                    have hB3 : decide (q8 ≤ u) = B2 := by rw [← hB2, decide_eq_decide]; omega
                    go_wp2_with fail
                    refine (IH.out u (by omega) b o m c n a1 mid l2 d4 v6 (by omega) (by omega) (by omega) hn hd4.out hx6.out M4.out g5).mono ?_
                    rintro e v7 ⟨rfl, R, X7, S7, K7⟩
                    have N6 := M6.out R S7.1 S7.2
                    have H7 : Hid (Srow v7 b o m R ∧ Kept b w v7 ∧ R.size = n ∧ Sort.Below Sort.ltInt (mid + 1) z1 R ∧ ∀ Q, Sort.PermIn (mid + 1) z1 R Q → Sort.SortedIn Sort.ltInt (mid + 1) z1 Q → SortTo a z d Q) := ⟨X7, hk6.out.trans K7, S7.1.1.trans hd4.out, N6.1, fun Q h1 h2 => hc2.out Q (N6.2 Q h1 h2).1 (N6.2 Q h1 h2).2⟩
                    clear X7 S7 K7 N6
                    go_wp2_with fail
                    go_roundw
                    case rel => exact ⟨mid + 1, z1, l2, _, ap, R, by go_num, rfl, rfl, rfl, rfl, by omega, by omega, by omega, by omega, H7.out.2.2.1, H7.out.1, H7.out.2.1, H7.out.2.2.2.1, H7.out.2.2.2.2⟩
                    case measure => simp [intOf]; omega
                  · have i5 : decide ((u : Int) < (r : Int)) = false := by simp; omega
                    obtain ⟨B2, hB2⟩ : ∃ B : Bool, decide ((q8 : Int) ≤ (r : Int)) = B := ⟨_, rfl⟩
                    have hB3 : decide (q8 ≤ r) = B2 := by rw [← hB2, decide_eq_decide]; omega
                    go_wp2_with fail
                    rw [← e6]
                    refine (IH.out (r - 1) (by omega) b o m c n (mid + 1) z1 l2 d4 v6 (by omega) (by omega) (by omega) hn hd4.out hx6.out M5.out g5).mono ?_
                    rintro e v7 ⟨rfl, R, X7, S7, K7⟩
                    have N6 := M7.out R S7.1 S7.2
                    have H7 : Hid (Srow v7 b o m R ∧ Kept b w v7 ∧ R.size = n ∧ Sort.Below Sort.ltInt a1 mid R ∧ ∀ Q, Sort.PermIn a1 mid R Q → Sort.SortedIn Sort.ltInt a1 mid Q → SortTo a z d Q) := ⟨X7, hk6.out.trans K7, S7.1.1.trans hd4.out, N6.1, fun Q h1 h2 => hc2.out Q (N6.2 Q h1 h2).1 (N6.2 Q h1 h2).2⟩
                    clear X7 S7 K7 N6
                    go_wp2_with fail
                    go_roundw
                    case rel => exact ⟨a1, mid, l2, _, ap, R, rfl, rfl, rfl, rfl, rfl, by omega, by omega, by omega, by omega, H7.out.2.2.1, H7.out.1, H7.out.2.1, H7.out.2.2.2.1, H7.out.2.2.2.2⟩
                    case measure => simp [intOf]; omega
                · have hbt := of_decide_eq_true hbB.symm
                  obtain ⟨b1, b2⟩ := hbt
                  have b3 : Sort.ltInt d2[a1 - 1]! d2[p]! = false := decide_eq_false b2
                  have HB3 : Hid (Sort.ltInt d2[a1 - 1]! d2[p]! = false) := b3
                  clear hbB b2 b3
                  go_wp2_with fail
                  refine (speq_any b o m c n a1 z1 p d2 v5 p1 p2 (by omega) (by omega) hd2 hx5).mono ?_
                  rintro e v6 ⟨rfl, X6, K6⟩
                  obtain ⟨mid, d4, h4⟩ : ∃ mid d4, Sort.partitionEqual Sort.ltInt d2 a1 z1 p = (mid, d4) := ⟨_, _, rfl⟩
                  obtain ⟨m1, m2, m3, m4, m5⟩ := Sort.round_eq Sort.swo_ltInt (Sort.partitionEqual_holds _) b1 p1 p2 (by rw [hd2.out]; omega) hb2.out HB3.out h4
                  rw [h4] at X6 ⊢
                  have H7 : Hid (Srow v6 b o m d4 ∧ Kept b w v6 ∧ d4.size = n ∧ Sort.Below Sort.ltInt mid z1 d4 ∧ ∀ Q, Sort.PermIn mid z1 d4 Q → Sort.SortedIn Sort.ltInt mid z1 Q → SortTo a z d Q) := ⟨X6, hk5.out.trans K6, m3.trans hd2.out, m4, fun Q h1 h2 => hc2.out Q (m5 Q h1 h2).1 (m5 Q h1 h2).2⟩
                  clear X6 K6 h4 m3 m4 m5 hx5 hk5
                  go_wp2_with fail
                  go_roundw
                  case rel => exact ⟨mid, z1, l2, wb, wp, d4, rfl, rfl, rfl, rfl, rfl, by omega, by omega, by omega, by omega, H7.out.2.2.1, H7.out.1, H7.out.2.1, H7.out.2.2.2.1, H7.out.2.2.2.2⟩
                  case measure => simp [intOf]; omega
set_option maxRecDepth 100000 in
set_option maxHeartbeats 1000000 in
theorem ssort_any (b o m c n : Nat) (d : Array Int) (w : World) (hn : n < 50) (HD : Hid (d.size = n)) (HX : Hid (Srow w b o m d)) :
    Calls Try.prog 17 #[.slice (some ⟨b, o, none⟩) n c] w (Sorted b o m 0 n d w) := by
  have e1 : IntKind.u64.wrap (n : Int) = (n : Int) := by simp [IntKind.wrap, IntKind.bits, IntKind.signed]; omega
  go_enter Try.func17, Try.ntmps17
  go_wp2_with fail
  refine (slen_any n _ hn).mono ?_
  rintro e w1 ⟨rfl, rfl⟩
  have hl : Sort.bitsLen n ≤ 6 := (Sort.bitsLen_le_iff n 6).2 (by omega)
  obtain ⟨l, hl2⟩ : ∃ l, Sort.bitsLen n = l := ⟨_, rfl⟩
  rw [hl2] at hl ⊢
  clear hl2
  go_wp2_with fail
  refine (spdq_any n b o m c n 0 n l d w1 (by omega) (by omega) (by omega) hn HD.out HX.out (Or.inl rfl) (by omega)).mono ?_
  rintro e w2 ⟨rfl, h⟩
  go_wp2
  exact bodyPost_end (results_none Try.results17 _ _ _) rfl ⟨rfl, h⟩
end Go.Proofs.Ytalfncnpffbmmaa

/-
  The library's Sort of a row of uint64: the heap.
-/
import Derived.Test.YtalfncnpffbmmaaSa6
namespace Go.Proofs.Ytalfncnpffbmmaa
open Go.RowKit Go.Deep

theorem sift_stop (hi f r : Nat) (d : Array Int) (h : hi ≤ 2 * r + 1) : Sort.siftDown Sort.ltInt hi f r d = d := by
  rw [Sort.siftDown, dif_pos (by omega)]
theorem sift_go (hi f r c : Nat) (d : Array Int) (h : 2 * r + 1 < hi) (hc : (c = 2 * r + 2 ∧ 2 * r + 2 < hi ∧ d[f + (2 * r + 1)]! < d[f + (2 * r + 1) + 1]!) ∨ (c = 2 * r + 1 ∧ ¬ (2 * r + 2 < hi ∧ d[f + (2 * r + 1)]! < d[f + (2 * r + 1) + 1]!))) :
    Sort.siftDown Sort.ltInt hi f r d = if d[f + r]! < d[f + c]! then Sort.siftDown Sort.ltInt hi f c (Sort.swp d (f + r) (f + c)) else d := by
  rw [Sort.siftDown, dif_neg (by omega)]
  rcases hc with ⟨rfl, h1, h2⟩ | ⟨rfl, h1⟩
  · rw [if_pos (by simp only [Sort.ltInt, Bool.and_eq_true, decide_eq_true_eq]; exact ⟨by omega, h2⟩)]
    by_cases g : d[f + r]! < d[f + (2 * r + 2)]!
    · rw [if_pos g, if_neg (by simp [Sort.ltInt, g]), dif_pos h1]
    · rw [if_neg g, if_pos (by simp [Sort.ltInt]; omega)]
  · rw [if_neg (by simp only [Sort.ltInt, Bool.and_eq_true, decide_eq_true_eq]; exact fun g => h1 ⟨by omega, g.2⟩)]
    by_cases g : d[f + r]! < d[f + (2 * r + 1)]!
    · rw [if_pos g, if_neg (by simp [Sort.ltInt, g])]
    · rw [if_neg g, if_pos (by simp [Sort.ltInt]; omega)]
theorem sift_size (hi f : Nat) : ∀ (n r : Nat) (d : Array Int), hi - r ≤ n → (Sort.siftDown Sort.ltInt hi f r d).size = d.size := by
  intro n
  induction n with
  | zero => intro r d h; rw [sift_stop hi f r d (by omega)]
  | succ n ih =>
    intro r d h
    by_cases g : hi ≤ 2 * r + 1
    · rw [sift_stop hi f r d g]
    · by_cases e : 2 * r + 2 < hi ∧ d[f + (2 * r + 1)]! < d[f + (2 * r + 1) + 1]!
      · rw [sift_go hi f r (2 * r + 2) d (by omega) (Or.inl ⟨rfl, e⟩)]
        split
        · rw [ih _ _ (by omega), Sort.size_swp]
        · rfl
      · rw [sift_go hi f r (2 * r + 1) d (by omega) (Or.inr ⟨rfl, e⟩)]
        split
        · rw [ih _ _ (by omega), Sort.size_swp]
        · rfl
set_option maxRecDepth 100000 in
set_option maxHeartbeats 2000000 in
theorem ssift_any (b o m c n lo hi f : Nat) (d : Array Int) (w : World) (hf : f + hi ≤ n) (hlo : lo ≤ n) (hn : n ≤ 1000000) (HD : Hid (d.size = n)) (HX : Hid (Srow w b o m d)) :
    Calls Try.prog 39 #[.slice (some ⟨b, o, none⟩) n c, .int .i64 (lo : Int), .int .i64 (hi : Int), .int .i64 (f : Int)] w fun e w' =>
      e = .returned (.tuple #[]) ∧ Srow w' b o m (Sort.siftDown Sort.ltInt hi f lo d) ∧ Kept b w w' := by
  go_enter Try.func39, Try.ntmps39
  go_wp2_with fail
  go_loopw [8] (fun i wr => ∃ (r : Nat) (d1 : Array Int), i = .int .i64 r ∧ r ≤ n ∧ Hid (d1.size = n) ∧ Hid (Srow wr b o m d1) ∧ Hid (Kept b w wr) ∧ Hid (Sort.siftDown Sort.ltInt hi f r d1 = Sort.siftDown Sort.ltInt hi f lo d)) (fun i _ => hi - (intOf i).toNat)
  case atStart => exact ⟨lo, d, rfl, hlo, HD, HX, Kept.refl _ _, rfl⟩
  case round =>
    obtain ⟨r, d1, rfl, hr, hd1, hx1, hk1, ho1⟩ := hrel
    obtain ⟨ch, hch⟩ : ∃ ch, ch = 2 * r + 1 := ⟨_, rfl⟩
    have e1 : 2 * (r : Int) + 1 = (ch : Int) := by omega
    have HCH : Hid (ch = 2 * r + 1) := hch
    have hrc : r < ch := by omega
    by_cases hend : hi ≤ ch
    · have l1 : decide (hi ≤ ch) = true := by simpa using hend
      have HE : Hid (hi ≤ 2 * r + 1) := by show hi ≤ 2 * r + 1; omega
      clear hch
      go_wp2
      refine bodyPost_end (results_none Try.results39 _ _ _) rfl ⟨rfl, ?_, hk1.out⟩
      rw [← ho1.out, sift_stop hi f r d1 HE.out]
      exact hx1.out
    · have l1 : decide (hi ≤ ch) = false := by simpa using hend
      have hin : ch < hi := by omega
      clear hch hend
      go_upto_region 3 with fail
      go_cut [36] from 17 to 36 (fun t wc => ∃ B : Bool, t = .bool B ∧ Hid (B = decide (ch + 1 < hi ∧ d1[f + ch]! < d1[f + ch + 1]!)) ∧ Hid (Srow wc b o m d1) ∧ Hid (Kept b w wc))
      case first =>
        by_cases hk : ch + 1 < hi
        · obtain ⟨p, hp⟩ : ∃ p, p = f + ch := ⟨_, rfl⟩
          obtain ⟨x, hx⟩ : ∃ x, x = d1[f + ch]! := ⟨_, rfl⟩
          obtain ⟨y, hy⟩ : ∃ y, y = d1[f + ch + 1]! := ⟨_, rfl⟩
          have s2 := hd1.out
          have c1 : wr.cell? ⟨b, o + p, none⟩ = some (.int .u64 x) := by rw [hp, hx]; exact hx1.out.cell (f + ch) (by omega)
          have c2 : wr.cell? ⟨b, o + (p + 1), none⟩ = some (.int .u64 y) := by rw [hp, hy]; exact hx1.out.cell (f + ch + 1) (by omega)
          have HX1 : Hid (x = d1[f + ch]!) := hx
          have HY1 : Hid (y = d1[f + ch + 1]!) := hy
          have HQ : Hid (ch + 1 < hi) := hk
          obtain ⟨q, hq⟩ : ∃ q, q = p + 1 := ⟨_, rfl⟩
          rw [← hq] at c2
          have i0 : (ch : Int) + 1 < (hi : Int) := by omega
          have e2 : (f : Int) + (ch : Int) = (p : Int) := by omega
          have e3 : (p : Int) + 1 = (q : Int) := by omega
          have i2 : (p : Int) < (n : Int) := by omega
          have i3 : (q : Int) < (n : Int) := by omega
          clear hx hy s2 hp hq
          go_wp2_with fail
          go_quiet ((go_at_call 26; exact Calls.quiet_of_same (sless_any _ _ _)))
          go_wp2_with fail
          go_meet
          case rel =>
            refine ⟨_, rfl, ?_, hx1.out.same ⟨_, rfl⟩, hk1.out.trans (Kept.of_same ⟨_, rfl⟩)⟩
            show decide _ = decide _
            rw [decide_eq_decide, ← HX1.out, ← HY1.out]
            exact ⟨fun h => ⟨HQ.out, h⟩, fun h => h.2⟩
        · have i1 : decide ((ch : Int) + 1 < (hi : Int)) = false := by simp; omega
          have i2 : decide (ch + 1 < hi) = false := by simp; omega
          have HN : Hid (¬ ch + 1 < hi) := hk
          clear hk
          go_wp2_with fail
          go_quiet ((go_at_call 26; exact Calls.quiet_of_same (sless_any _ _ _)))
          go_wp2_with fail
          go_meet
          case rel => exact ⟨_, rfl, (decide_eq_false (fun h => HN.out h.1)).symm, hx1.out.same ⟨_, rfl⟩, hk1.out.trans (Kept.of_same ⟨_, rfl⟩)⟩
      case rest =>
        obtain ⟨B, rfl, hB, hx2, hk2⟩ := hcut
        generalize wc = v1 at *
        go_upto_if 36 with fail
        go_cut [9] from 37 to 38 (fun s wc => ∃ C : Nat, s = .int .i64 C ∧ Hid ((C = ch + 1 ∧ ch + 1 < hi ∧ d1[f + ch]! < d1[f + ch + 1]!) ∨ (C = ch ∧ ¬ (ch + 1 < hi ∧ d1[f + ch]! < d1[f + ch + 1]!))) ∧ wc = v1)
        case first =>
          have hb := hB.out
          cases B
          · have hf := of_decide_eq_false hb.symm
            have HF : Hid ((ch = ch + 1 ∧ ch + 1 < hi ∧ d1[f + ch]! < d1[f + ch + 1]!) ∨ (ch = ch ∧ ¬ (ch + 1 < hi ∧ d1[f + ch]! < d1[f + ch + 1]!))) := Or.inr ⟨rfl, hf⟩
            clear hb hf hB
            go_wp2_with fail
            go_meet
            case rel => exact ⟨ch, rfl, Or.inr ⟨rfl, by have := HF.out; omega⟩, rfl⟩
          · have hf := of_decide_eq_true hb.symm
            have HF : Hid (ch + 1 < hi ∧ d1[f + ch]! < d1[f + ch + 1]!) := hf
            clear hb hf hB
            go_wp2_with fail
            go_meet
            case rel => exact ⟨ch + 1, by go_num, Or.inl ⟨rfl, HF.out⟩, rfl⟩
        case rest =>
          obtain ⟨C, rfl, hC, hw⟩ := hcut
          subst hw
          generalize wc = v1 at *
          have hc1 : C < hi := by rcases hC.out with h | h <;> omega
          have hc2 : r < C := by rcases hC.out with h | h <;> omega
          obtain ⟨F1, hF1⟩ : ∃ F, F = f + r := ⟨_, rfl⟩
          obtain ⟨F2, hF2⟩ : ∃ F, F = f + C := ⟨_, rfl⟩
          have e2 : (f : Int) + (r : Int) = (F1 : Int) := by omega
          have e3 : (f : Int) + (C : Int) = (F2 : Int) := by omega
          have HF1 : Hid (F1 = f + r) := hF1
          have HF2 : Hid (F2 = f + C) := hF2
          have EQ : Hid (Sort.siftDown Sort.ltInt hi f r d1 = if d1[F1]! < d1[F2]! then Sort.siftDown Sort.ltInt hi f C (Sort.swp d1 F1 F2) else d1) := by
            show Sort.siftDown Sort.ltInt hi f r d1 = _
            rw [hF1, hF2]
            have h := HCH.out
            have h' := hC.out
            rw [h] at h'
            exact sift_go hi f r C d1 (by omega) (by rcases h' with h' | h'; exact Or.inl ⟨by omega, by omega, h'.2.2⟩; exact Or.inr ⟨by omega, fun g => h'.2 ⟨by omega, g.2⟩⟩)
          obtain ⟨x, hx⟩ : ∃ x, x = d1[F1]! := ⟨_, rfl⟩
          obtain ⟨y, hy⟩ : ∃ y, y = d1[F2]! := ⟨_, rfl⟩
          have s2 := hd1.out
          have c1 : v1.cell? ⟨b, o + F1, none⟩ = some (.int .u64 x) := hx ▸ hx2.out.cell F1 (by omega)
          have c2 : v1.cell? ⟨b, o + F2, none⟩ = some (.int .u64 y) := hy ▸ hx2.out.cell F2 (by omega)
          have f1 : v1.frozen? ⟨b, o + F1, none⟩ = false := hx2.out.thaw _
          have f2 : v1.frozen? ⟨b, o + F2, none⟩ = false := hx2.out.thaw _
          obtain ⟨u, c4⟩ : ∃ u, (v1.setCell ⟨b, o + F1, none⟩ (.int .u64 y)).cell? ⟨b, o + F2, none⟩ = some u := cell_after c2 _ _
          have HX1 : Hid (x = d1[F1]!) := hx
          have HY1 : Hid (y = d1[F2]!) := hy
          have i2 : (F1 : Int) < (n : Int) := by omega
          have i3 : (F2 : Int) < (n : Int) := by omega
          clear hx hy s2 hF1 hF2
          by_cases hl : x < y
          · have l2 : decide (x < y) = true := by simpa using hl
            have HL : Hid (x < y) := hl
            go_wp2_with fail
            go_quiet ((go_at_call 26; exact Calls.quiet_of_same (sless_any _ _ _)))
            go_wp2_with fail
            go_region
            go_wp2_with fail
            go_roundw
            case rel => exact ⟨C, Sort.swp d1 F1 F2, rfl, by omega, (Sort.size_swp _ _ _).trans hd1.out, (hx2.out.same ⟨_, rfl⟩).swap F1 F2 (by rw [hd1.out]; omega) (by rw [hd1.out]; omega) y x HY1.out HX1.out, hk2.out.trans ((Kept.of_same ⟨_, rfl⟩).trans (kept_two _ _ _ _)), by
              have h := EQ.out
              rw [if_pos (by rw [← HX1.out, ← HY1.out]; exact HL.out)] at h
              exact h.symm.trans ho1.out⟩
            case measure => simp [intOf]; omega
          · have l2 : decide (x < y) = false := by simpa using hl
            have HL : Hid (¬ x < y) := hl
            go_wp2_with fail
            go_quiet ((go_at_call 26; exact Calls.quiet_of_same (sless_any _ _ _)))
            go_wp2
            refine bodyPost_ret (results_none Try.results39 _ _ _) rfl ⟨rfl, ?_, hk2.out.trans (Kept.of_same ⟨_, rfl⟩)⟩
            have h := EQ.out
            rw [if_neg (by rw [← HX1.out, ← HY1.out]; have := HL.out; omega)] at h
            rw [← ho1.out, h]
            exact hx2.out.same ⟨_, rfl⟩
set_option maxRecDepth 100000 in
set_option maxHeartbeats 2000000 in
theorem sheap_any (b o m c n a z : Nat) (d : Array Int) (w : World) (h1 : 1 < z - a) (hz : z ≤ n) (hn : n ≤ 1000000) (HD : Hid (d.size = n)) (HX : Hid (Srow w b o m d)) :
    Calls Try.prog 29 #[.slice (some ⟨b, o, none⟩) n c, .int .i64 (a : Int), .int .i64 (z : Int)] w fun e w' =>
      e = .returned (.tuple #[]) ∧ Srow w' b o m (Sort.heapSort Sort.ltInt d a z) ∧ Kept b w w' := by
  obtain ⟨l, hl⟩ : ∃ l, l = z - a := ⟨_, rfl⟩
  obtain ⟨q, hq⟩ : ∃ q, q = (l - 1) / 2 := ⟨_, rfl⟩
  have HQ : Hid (Sort.heapSort Sort.ltInt d a z = Sort.heapPop Sort.ltInt a l (Sort.heapBuild Sort.ltInt l a (q + 1) d)) := by
    show Sort.heapSort Sort.ltInt d a z = _
    rw [hq, hl]
    rfl
  have e0 : (z : Int) - (a : Int) = (l : Int) := by omega
  obtain ⟨l1, hl1⟩ : ∃ l1, l = l1 + 1 := ⟨l - 1, by omega⟩
  have e1 : (l : Int) - 1 = (l1 : Int) := by omega
  have q4 : (l1 : Int).tdiv 2 = (q : Int) := by
    rw [Int.tdiv_eq_ediv_of_nonneg (by omega)]
    omega
  have q5 : (l1 : Int) / 2 = (q : Int) := by omega
  have g1 : a + l ≤ n := by omega
  have g2 : q ≤ l := by omega
  have HL1 : Hid (l = l1 + 1) := hl1
  have i3 : a ≤ 1000000 := by omega
  have i4 : z ≤ 1000000 := by omega
  have i5 : l1 ≤ 1000000 := by omega
  have i6 : l ≤ 1000000 := by omega
  have g3 : l1 + 1 ≤ l := by omega
  clear hl hq hl1 h1
  rw [HQ.out]
  obtain ⟨D0, hD0⟩ : ∃ D, D = Sort.heapBuild Sort.ltInt l a (q + 1) d := ⟨_, rfl⟩
  have HD0 : Hid (Sort.heapBuild Sort.ltInt l a (q + 1) d = D0) := hD0.symm
  rw [← hD0]
  clear hD0 HQ
  go_enter Try.func29, Try.ntmps29
  go_wp2_with fail
  go_loopw [9] (fun i wr => ∃ (k : Nat) (v : Int) (d1 : Array Int), i = .int .i64 v ∧ Hid (v = (k : Int) - 1) ∧ k ≤ q + 1 ∧ Hid (d1.size = n) ∧ Hid (Srow wr b o m d1) ∧ Hid (Kept b w wr) ∧ Hid (Sort.heapBuild Sort.ltInt l a k d1 = D0)) (fun i _ => (intOf i + 1).toNat)
  case atStart => exact ⟨q + 1, (q : Int), d, rfl, by show (q : Int) = ((q + 1 : Nat) : Int) - 1; omega, Nat.le_refl _, HD, HX, Kept.refl _ _, HD0⟩
  case round =>
    obtain ⟨k, v, d1, rfl, hv, hk, hd1, hx1, hk1, ho1⟩ := hrel
    cases k with
    | zero =>
      obtain rfl : v = -1 := by have := hv.out; omega
      have HB : Hid (d1 = D0) := ho1.out
      clear hv ho1
      go_wp2_with fail
      generalize wr = v1 at *
      go_loopw [10] (fun i wr => ∃ (k : Nat) (v : Int) (d2 : Array Int), i = .int .i64 v ∧ Hid (v = (k : Int) - 1) ∧ k ≤ l ∧ Hid (d2.size = n) ∧ Hid (Srow wr b o m d2) ∧ Hid (Kept b w wr) ∧ Hid (Sort.heapPop Sort.ltInt a k d2 = Sort.heapPop Sort.ltInt a l D0)) (fun i _ => (intOf i + 1).toNat)
      case atStart => exact ⟨l, (l1 : Int), d1, rfl, by show (l1 : Int) = (l : Int) - 1; omega, Nat.le_refl _, hd1, hx1, hk1, by rw [HB.out]; rfl⟩
      case round =>
        obtain ⟨k, v, d2, rfl, hv, hk, hd2, hx2, hk2, ho2⟩ := hrel
        cases k with
        | zero =>
          obtain rfl : v = -1 := by have := hv.out; omega
          go_wp2
          refine bodyPost_end (results_none Try.results29 _ _ _) rfl ⟨rfl, ?_, hk2.out⟩
          rw [← ho2.out]
          exact hx2.out
        | succ k =>
          obtain rfl : v = (k : Int) := by have := hv.out; omega
          clear hv
          obtain ⟨F2, hF2⟩ : ∃ F, F = a + k := ⟨_, rfl⟩
          have e3 : (a : Int) + (k : Int) = (F2 : Int) := by omega
          have HF2 : Hid (F2 = a + k) := hF2
          have hi2 : F2 < n := by omega
          have hi1 : a < n := by omega
          obtain ⟨x, hx⟩ : ∃ x, x = d2[a]! := ⟨_, rfl⟩
          obtain ⟨y, hy⟩ : ∃ y, y = d2[F2]! := ⟨_, rfl⟩
          have s2 := hd2.out
          have c1 : wr.cell? ⟨b, o + a, none⟩ = some (.int .u64 x) := hx ▸ hx2.out.cell a (by omega)
          have c2 : wr.cell? ⟨b, o + F2, none⟩ = some (.int .u64 y) := hy ▸ hx2.out.cell F2 (by omega)
          have f1 : wr.frozen? ⟨b, o + a, none⟩ = false := hx2.out.thaw _
          have f2 : wr.frozen? ⟨b, o + F2, none⟩ = false := hx2.out.thaw _
          obtain ⟨u, c4⟩ : ∃ u, (wr.setCell ⟨b, o + a, none⟩ (.int .u64 y)).cell? ⟨b, o + F2, none⟩ = some u := cell_after c2 _ _
          have HX1 : Hid (x = d2[a]!) := hx
          have HY1 : Hid (y = d2[F2]!) := hy
          have i2 : (a : Int) < (n : Int) := by omega
          have i3 : (F2 : Int) < (n : Int) := by omega
          clear hx hy s2
          clear hF2
          go_wp2_with fail
          go_region
          go_wp2_with fail
          have X3 : Srow (((wr.setCell ⟨b, o + a, none⟩ (.int .u64 y)).setCell ⟨b, o + F2, none⟩ (.int .u64 x)).drew) b o m (Sort.swp d2 a F2) := hx2.out.swapd a F2 (by rw [hd2.out]; omega) (by rw [hd2.out]; omega) y x HY1.out HX1.out
          have K3 : Kept b w (((wr.setCell ⟨b, o + a, none⟩ (.int .u64 y)).setCell ⟨b, o + F2, none⟩ (.int .u64 x)).drew) := hk2.out.trans (kept_twod _ _ _ _)
          generalize ((wr.setCell ⟨b, o + a, none⟩ (.int .u64 y)).setCell ⟨b, o + F2, none⟩ (.int .u64 x)).drew = v2 at *
          have HX3 : Hid (Srow v2 b o m (Sort.swp d2 a F2)) := X3
          have HK3 : Hid (Kept b w v2) := K3
          have HD3 : Hid ((Sort.swp d2 a F2).size = n) := (Sort.size_swp _ _ _).trans hd2.out
          clear X3 K3
          refine (ssift_any b o m c n 0 k a (Sort.swp d2 a F2) v2 (by omega) (by omega) hn HD3 HX3).mono ?_
          rintro e w4 ⟨rfl, X4, K4⟩
          have HX4 : Hid (Srow w4 b o m (Sort.siftDown Sort.ltInt k a 0 (Sort.swp d2 a F2))) := X4
          have HK4 : Hid (Kept b w w4) := HK3.out.trans K4
          clear X4 K4
          go_wp2_with fail
          go_roundw
          case rel => exact ⟨k, (k : Int) - 1, _, rfl, rfl, by omega, (sift_size _ _ _ _ _ (Nat.le_refl _)).trans HD3.out, HX4, HK4, by
              have h := HF2.out
              rw [h]
              exact ho2.out⟩
          case measure => simp [intOf]
    | succ k =>
      obtain rfl : v = (k : Int) := by have := hv.out; omega
      clear hv
      go_wp2_with fail
      refine (ssift_any b o m c n k l a d1 wr (by omega) (by omega) hn hd1 hx1).mono ?_
      rintro e w4 ⟨rfl, X4, K4⟩
      have HX4 : Hid (Srow w4 b o m (Sort.siftDown Sort.ltInt l a k d1)) := X4
      have HK4 : Hid (Kept b w w4) := hk1.out.trans K4
      clear X4 K4
      go_wp2_with fail
      go_roundw
      case rel => exact ⟨k, (k : Int) - 1, _, rfl, rfl, by omega, (sift_size _ _ _ _ _ (Nat.le_refl _)).trans hd1.out, HX4, HK4, ho1.out⟩
      case measure => simp [intOf]
end Go.Proofs.Ytalfncnpffbmmaa

/-
  The library's Sort of a row of uint64: how many bits a number has, three exchanges by drawn numbers.
-/
import Derived.Test.YtalfncnpffbmmaaSa5
namespace Go.Proofs.Ytalfncnpffbmmaa
open Go.RowKit Go.Deep

theorem eq_of_dec {a b : Int} (h : decide (a = b) = true) : a = b := of_decide_eq_true h
set_option maxRecDepth 100000 in
set_option maxHeartbeats 4000000 in
theorem slen64_any (n : Nat) (w : World) (hn : n < 50) : Calls Try.prog 37 #[.int .u64 (n : Int)] w fun e w' => w' = w ∧ ∃ l : Int, e = .returned (.int .i64 l) ∧ l = ((Sort.bitsLen n : Nat) : Int) := by
  have h : n = 0 ∨ n = 1 ∨ n = 2 ∨ n = 3 ∨ n = 4 ∨ n = 5 ∨ n = 6 ∨ n = 7 ∨ n = 8 ∨ n = 9 ∨ n = 10 ∨ n = 11 ∨ n = 12 ∨ n = 13 ∨ n = 14 ∨ n = 15 ∨ n = 16 ∨ n = 17 ∨ n = 18 ∨ n = 19 ∨ n = 20 ∨ n = 21 ∨ n = 22 ∨ n = 23 ∨ n = 24 ∨ n = 25 ∨ n = 26 ∨ n = 27 ∨ n = 28 ∨ n = 29 ∨ n = 30 ∨ n = 31 ∨ n = 32 ∨ n = 33 ∨ n = 34 ∨ n = 35 ∨ n = 36 ∨ n = 37 ∨ n = 38 ∨ n = 39 ∨ n = 40 ∨ n = 41 ∨ n = 42 ∨ n = 43 ∨ n = 44 ∨ n = 45 ∨ n = 46 ∨ n = 47 ∨ n = 48 ∨ n = 49 := by omega
  rcases h with h | rfl | rfl | rfl | rfl | rfl | rfl | rfl | rfl | rfl | rfl | rfl | rfl | rfl | rfl | rfl | rfl | rfl | rfl | rfl | rfl | rfl | rfl | rfl | rfl | rfl | rfl | rfl | rfl | rfl | rfl | rfl | rfl | rfl | rfl | rfl | rfl | rfl | rfl | rfl | rfl | rfl | rfl | rfl | rfl | rfl | rfl | rfl | rfl | rfl
  · subst h
    go_enter Try.func37, Try.ntmps37
    go_wp2
    go_ret
    exact ⟨rfl, _, rfl, eq_of_dec (by kernel_rfl)⟩
  all_goals
    go_enter Try.func37, Try.ntmps37
    go_wp2
    go_ret
    exact ⟨rfl, _, rfl, eq_of_dec (by kernel_rfl)⟩
set_option maxRecDepth 100000 in
set_option maxHeartbeats 1000000 in
theorem slen_any (n : Nat) (w : World) (hn : n < 50) : Calls Try.prog 23 #[.int .u64 (n : Int)] w fun e w' => w' = w ∧ e = .returned (.int .i64 ((Sort.bitsLen n : Nat) : Int)) := by
  go_enter Try.func23, Try.ntmps23
  go_wp2_with fail
  refine (slen64_any n _ hn).mono ?_
  rintro e w1 ⟨rfl, l, rfl, rfl⟩
  go_wp2
  go_ret
  exact ⟨rfl, rfl⟩
theorem bits_cases (n : Nat) (h1 : 8 ≤ n) (h2 : n < 50) : (Sort.bitsLen n = 4 ∧ n < 16) ∨ (Sort.bitsLen n = 5 ∧ 16 ≤ n ∧ n < 32) ∨ (Sort.bitsLen n = 6 ∧ 32 ≤ n) := by
  have a := (Sort.bitsLen_le_iff n 3)
  have b := (Sort.bitsLen_le_iff n 4)
  have c := (Sort.bitsLen_le_iff n 5)
  have d := (Sort.bitsLen_le_iff n 6)
  omega
set_option maxRecDepth 100000 in
set_option maxHeartbeats 1000000 in
theorem spow_any (n : Nat) (w : World) (h1 : 8 ≤ n) (hn : n < 50) : Calls Try.prog 40 #[.int .i64 (n : Int)] w fun e w' => w' = w ∧ ∃ M k : Nat, e = .returned (.int .u64 (M : Int)) ∧ M = 2 ^ k ∧ k ≤ 6 ∧ 8 ≤ M ∧ M ≤ 2 * n := by
  have e1 : IntKind.u64.wrap (n : Int) = (n : Int) := by simp [IntKind.wrap, IntKind.bits, IntKind.signed]; omega
  have H := bits_cases n h1 hn
  go_enter Try.func40, Try.ntmps40
  go_wp2_with fail
  refine (slen_any n _ hn).mono ?_
  rintro e w1 ⟨rfl, rfl⟩
  rcases H with ⟨e, h⟩ | ⟨e, h⟩ | ⟨e, h⟩
  · rw [e]
    go_wp2
    go_ret
    exact ⟨rfl, 16, 4, rfl, rfl, by omega, by omega, by omega⟩
  · rw [e]
    go_wp2
    go_ret
    exact ⟨rfl, 32, 5, rfl, rfl, by omega, by omega, by omega⟩
  · rw [e]
    go_wp2
    go_ret
    exact ⟨rfl, 64, 6, rfl, rfl, by omega, by omega, by omega⟩
theorem Kept.new {b R : Nat} {w x y : World} (h : Kept b w x) (k : Kept R x y) (hR : w.heap.size ≤ R) : Kept b w y :=
  ⟨k.os.trans h.os, k.tape.trans h.tape, k.output.trans h.output, Nat.le_trans h.size k.size, fun i hi hb => (k.block i (Nat.lt_of_lt_of_le hi h.size) (by omega)).trans (h.block i hi hb)⟩
theorem RndAt.other {w : World} {R r b : Nat} (h : RndAt w R r) (hb : b ≠ R) (i j : Nat) (x y : Value) : RndAt (((w.setCell ⟨b, i, none⟩ x).setCell ⟨b, j, none⟩ y).drew) R r := by
  have q := kept_twod (w := w) (b := b) i j x y
  exact ⟨q.cell h.cell (Ne.symm hb), (World.frozen?_of_block (a := ⟨R, 0, none⟩) (q.block R (cell_lt h.cell) (Ne.symm hb))).trans h.thaw, h.lt⟩
set_option maxRecDepth 100000 in
set_option maxHeartbeats 1000000 in
theorem sbrk_any (b o m c n a z : Nat) (d : Array Int) (w : World) (h1 : 12 < z - a) (h2 : z - a < 50) (hz : z ≤ n) (hn : n ≤ 1000000) (HD : Hid (d.size = n)) (HX : Hid (Srow w b o m d)) :
    Calls Try.prog 30 #[.slice (some ⟨b, o, none⟩) n c, .int .i64 (a : Int), .int .i64 (z : Int)] w fun e w' => e = .returned (.tuple #[]) ∧ ∃ d' : Array Int, Srow w' b o m d' ∧ Sort.PermIn a z d d' ∧ Kept b w w' := by
  obtain ⟨l, hl⟩ : ∃ l, l = z - a := ⟨_, rfl⟩
  obtain ⟨q, hq⟩ : ∃ q, q = (z - a) / 4 := ⟨_, rfl⟩
  obtain ⟨I, hI⟩ : ∃ I, I + 1 = a + (z - a) / 4 * 2 := ⟨a + (z - a) / 4 * 2 - 1, by omega⟩
  have e0 : (z : Int) - (a : Int) = (l : Int) := by omega
  have q4 : (l : Int).tdiv 4 = (q : Int) := by
    rw [Int.tdiv_eq_ediv_of_nonneg (by omega)]
    omega
  have q5 : (l : Int) / 4 = (q : Int) := by omega
  have e1 : (a : Int) + (q : Int) * 2 - 1 = (I : Int) := by omega
  have e2 : (a : Int) + (q : Int) * 2 + 1 = (I : Int) + 2 := by omega
  have e3 : IntKind.u64.wrap (l : Int) = (l : Int) := by simp [IntKind.wrap, IntKind.bits, IntKind.signed]; omega
  have g1 : a ≤ I := by omega
  have g2 : I + 2 < z := by omega
  have g3 : a + l = z := by omega
  have g4 : 12 < l := by omega
  have g5 : l < 50 := by omega
  have i0 : q ≤ 1000 := by omega
  have i1 : (8 : Int) ≤ (l : Int) := by omega
  have i3 : a ≤ 1000000 := by omega
  have i4 : z ≤ 1000000 := by omega
  clear hl hq hI h1 h2
  obtain ⟨y, ey⟩ : ∃ y, w.alloc (.cells #[.int .u64 (l : Int)] 72) = y := ⟨_, rfl⟩
  have B0 : Below w.heap.size w y := ey ▸ (Below.refl _ _).alloc (Nat.le_refl _) _
  have HK0 : Hid (Kept b w y) := Kept.of_below B0
  have HX0 : Hid (Srow y b o m d) := HX.out.grew B0
  have HR0 : Hid (RndAt y w.heap.size l) := ⟨by rw [← ey, World.cell?_alloc_at _ _ _ _ rfl]; rfl, by rw [← ey]; exact frozen_of_row _ w.heap.size 0 _ 72 (heap_alloc_new w _), by omega⟩
  have HR : Hid (b ≠ w.heap.size) := by show b ≠ w.heap.size; have := HX.out.lt; omega
  have P0 : Hid (Sort.PermIn a z d d) := Sort.permIn_refl _ _ _
  clear B0 HX
  go_enter Try.func30, Try.ntmps30
  go_wp2_with fail
  refine (spow_any l y (by omega) g5).mono ?_
  rintro e w1 ⟨rfl, M, k, rfl, hM, hk, m1, m2⟩
  obtain ⟨M1, hM1⟩ : ∃ M1, M = M1 + 1 := ⟨M - 1, by omega⟩
  have HM : Hid (M1 = 2 ^ k - 1) := by show M1 = 2 ^ k - 1; omega
  have HMM : Hid (M1 + 1 = 2 ^ k) := by show M1 + 1 = 2 ^ k; omega
  have eM : (M : Int) - 1 = (M1 : Int) := by omega
  have m4 : M1 < 2 * l := by omega
  have m3 : M ≤ 1000 := by omega
  have eM2 : IntKind.u64.wrap (M1 : Int) = (M1 : Int) := by simp [IntKind.wrap, IntKind.bits, IntKind.signed]; omega
  clear hM hk hM1
  go_wp2_with fail
  go_loopw [9] (fun i wr => ∃ (t s : Nat) (d1 : Array Int), i = .int .i64 (((I + t : Nat)) : Int) ∧ t ≤ 3 ∧ Hid (d1.size = n) ∧ Hid (Srow wr b o m d1) ∧ Hid (RndAt wr w.heap.size s) ∧ Hid (Kept b w wr) ∧ Hid (Sort.PermIn a z d d1)) (fun i _ => I + 3 - (intOf i).toNat)
  case atStart => exact ⟨0, l, d, by go_num, by omega, HD, HX0, HR0, HK0, P0⟩
  case round =>
    obtain ⟨t, s, d1, rfl, ht, hd1, hx1, hr1, hk1, hp1⟩ := hrel
    obtain ⟨j, hj⟩ : ∃ j, j = I + t := ⟨_, rfl⟩
    rw [← hj]
    have j3 : j ≤ I + 3 := by omega
    have j4 : I ≤ j := by omega
    have HJ : Hid (j = I + t) := hj
    clear hj
    by_cases hlt : j < I + 3
    · have l1 : (j : Int) ≤ (I : Int) + 2 := by omega
      clear ht
      go_wp2_with fail
      refine (snext_any w.heap.size s wr hr1.out).mono ?_
      rintro e w2 ⟨r, rfl, r2, k2, z2⟩
      have HX2 : Hid (Srow w2 b o m d1) := hx1.out.kept k2 HR.out
      have HK2 : Hid (Kept b w w2) := hk1.out.new k2 (Nat.le_refl _)
      have HR2 : Hid (RndAt w2 w.heap.size r) := r2
      obtain ⟨u, hu⟩ : ∃ u, u = r &&& M1 := ⟨_, rfl⟩
      have f1 : bits .and .u64 (r : Int) (M1 : Int) = (u : Int) := by rw [w64_and _ _ r2.lt (by omega), hu]
      have f2 : u < 2 ^ k := hu ▸ Nat.and_lt_two_pow _ (by have := HMM.out; omega)
      have f3 : u ≤ M1 := by have := HMM.out; omega
      clear f2 hu r2 k2 z2 hx1 hk1 hr1
      have c0 : a + 0 = a := rfl
      by_cases hul : l ≤ u
      · have l2 : (l : Int) ≤ (u : Int) := by omega
        obtain ⟨Q, hQ⟩ : ∃ Q, u = Q + l := ⟨u - l, by omega⟩
        have eQ : (u : Int) - (l : Int) = (Q : Int) := by omega
        have Q1 : Q < l := by omega
        clear hQ
        obtain ⟨p, hp⟩ : ∃ p, p = a + Q := ⟨_, rfl⟩
        have ep : (a : Int) + (Q : Int) = (p : Int) := by omega
        have p1 : a ≤ p := by omega
        have p2 : p < z := by omega
        obtain ⟨x, hx⟩ : ∃ x, x = d1[j]! := ⟨_, rfl⟩
        obtain ⟨v, hv⟩ : ∃ v, v = d1[p]! := ⟨_, rfl⟩
        have s2 := hd1.out
        have c1 : w2.cell? ⟨b, o + j, none⟩ = some (.int .u64 x) := hx ▸ HX2.out.cell j (by omega)
        have c2 : w2.cell? ⟨b, o + p, none⟩ = some (.int .u64 v) := hv ▸ HX2.out.cell p (by omega)
        have f4 : w2.frozen? ⟨b, o + j, none⟩ = false := HX2.out.thaw _
        have f5 : w2.frozen? ⟨b, o + p, none⟩ = false := HX2.out.thaw _
        obtain ⟨u4, c4⟩ : ∃ u, (w2.setCell ⟨b, o + j, none⟩ (.int .u64 v)).cell? ⟨b, o + p, none⟩ = some u := cell_after c2 _ _
        have HX1 : Hid (x = d1[j]!) := hx
        have HV1 : Hid (v = d1[p]!) := hv
        have i5 : (j : Int) < (n : Int) := by omega
        have i6 : (p : Int) < (n : Int) := by omega
        clear hx hv s2 hp
        go_wp2_with fail
        go_region
        go_wp2_with fail
        have X3 : Srow (((w2.setCell ⟨b, o + j, none⟩ (.int .u64 v)).setCell ⟨b, o + p, none⟩ (.int .u64 x)).drew) b o m (Sort.swp d1 j p) := HX2.out.swapd j p (by rw [hd1.out]; omega) (by rw [hd1.out]; omega) v x HV1.out HX1.out
        have R3 : RndAt (((w2.setCell ⟨b, o + j, none⟩ (.int .u64 v)).setCell ⟨b, o + p, none⟩ (.int .u64 x)).drew) w.heap.size r := HR2.out.other HR.out _ _ _ _
        go_roundw
        case rel => exact ⟨t + 1, r, Sort.swp d1 j p, by have := HJ.out; go_num, by have := HJ.out; omega, (Sort.size_swp _ _ _).trans hd1.out, X3, R3, HK2.out.trans (kept_twod _ _ _ _), Sort.permIn_trans _ _ _ _ _ hp1.out (Sort.swp_permIn _ _ _ _ _ (by omega) (by omega) p1 p2 (by rw [hd1.out]; omega))⟩
        case measure => simp [intOf]; omega
      · have l2 : decide ((l : Int) ≤ (u : Int)) = false := by simp; omega
        have Q1 : u < l := by omega
        obtain ⟨p, hp⟩ : ∃ p, p = a + u := ⟨_, rfl⟩
        have ep : (a : Int) + (u : Int) = (p : Int) := by omega
        have p1 : a ≤ p := by omega
        have p2 : p < z := by omega
        obtain ⟨x, hx⟩ : ∃ x, x = d1[j]! := ⟨_, rfl⟩
        obtain ⟨v, hv⟩ : ∃ v, v = d1[p]! := ⟨_, rfl⟩
        have s2 := hd1.out
        have c1 : w2.cell? ⟨b, o + j, none⟩ = some (.int .u64 x) := hx ▸ HX2.out.cell j (by omega)
        have c2 : w2.cell? ⟨b, o + p, none⟩ = some (.int .u64 v) := hv ▸ HX2.out.cell p (by omega)
        have f4 : w2.frozen? ⟨b, o + j, none⟩ = false := HX2.out.thaw _
        have f5 : w2.frozen? ⟨b, o + p, none⟩ = false := HX2.out.thaw _
        obtain ⟨u4, c4⟩ : ∃ u, (w2.setCell ⟨b, o + j, none⟩ (.int .u64 v)).cell? ⟨b, o + p, none⟩ = some u := cell_after c2 _ _
        have HX1 : Hid (x = d1[j]!) := hx
        have HV1 : Hid (v = d1[p]!) := hv
        have i5 : (j : Int) < (n : Int) := by omega
        have i6 : (p : Int) < (n : Int) := by omega
        clear hx hv s2 hp
        go_wp2_with fail
        go_region
        go_wp2_with fail
        have X3 : Srow (((w2.setCell ⟨b, o + j, none⟩ (.int .u64 v)).setCell ⟨b, o + p, none⟩ (.int .u64 x)).drew) b o m (Sort.swp d1 j p) := HX2.out.swapd j p (by rw [hd1.out]; omega) (by rw [hd1.out]; omega) v x HV1.out HX1.out
        have R3 : RndAt (((w2.setCell ⟨b, o + j, none⟩ (.int .u64 v)).setCell ⟨b, o + p, none⟩ (.int .u64 x)).drew) w.heap.size r := HR2.out.other HR.out _ _ _ _
        go_roundw
        case rel => exact ⟨t + 1, r, Sort.swp d1 j p, by have := HJ.out; go_num, by have := HJ.out; omega, (Sort.size_swp _ _ _).trans hd1.out, X3, R3, HK2.out.trans (kept_twod _ _ _ _), Sort.permIn_trans _ _ _ _ _ hp1.out (Sort.swp_permIn _ _ _ _ _ (by omega) (by omega) p1 p2 (by rw [hd1.out]; omega))⟩
        case measure => simp [intOf]; omega
    · have l1 : decide ((j : Int) ≤ (I : Int) + 2) = false := by simp; omega
      go_wp2
      exact bodyPost_end (results_none Try.results30 _ _ _) rfl ⟨rfl, d1, hx1.out, hp1.out, hk1.out⟩
end Go.Proofs.Ytalfncnpffbmmaa

/-
  What package head puts it takes as it was, each place by itself, and what it takes it puts as those bytes; bodies and bytes of other lengths are refused: the call returns true, whatever the data and the bytes are (bodies of at most 70 bytes and at most 80 bytes are looked at; no condition).
-/
import Derived.Test.YtpabhllejmeogaaRows
import Derived.WalkKit
import Derived.ProofKit
import Derived.OpenShut
import Derived.ShutString
import Derived.ChangeOld
import Derived.Below
import Derived.Carry
import Derived.Test.YtpabhllejmeogaaOpn
import Derived.Test.YtpabhllejmeogaaOpd
import Derived.Test.YtpabhllejmeogaaHbg
import Derived.Test.YtpabhllejmeogaaHsm
namespace Go.Proofs.Ytpabhllejmeogaa.headBack
open Go.ChangeShapes Go.WideShapes Go.ChangeAt Go.RowKit
open Go.ChangeMaps (open_string shut_string)
set_option linter.unusedVariables false

theorem own : ownKnob Try.prog.godebug = none := by kernel_rfl
theorem laidOut : laidOutB Try.prog = true := by kernel_rfl

open Go.Deep

set_option maxRecDepth 100000 in
theorem long (s t f y : Int) (a : Option Addr) (n c : Nat) (a1 : Option Addr) (m c1 : Nat) (w : World) (h : ¬ (n ≤ 70 ∧ m ≤ 80)) :
    Calls Try.prog 4 #[.agg #[.int .u16 s, .int .u16 t, .int .u32 f, .int .u16 y, .slice a n c], .slice a1 m c1] w fun e w' => e = .returned (.bool true) ∧ Below w.heap.size w w' := by
  have q1 : (w.alloc (.cells #[.int .u16 s, .int .u16 t, .int .u32 f, .int .u16 y, .slice a n c] 26)).cell? ⟨w.heap.size, 4, none⟩ = some (.slice a n c) := by rw [World.cell?_alloc_at _ _ _ _ rfl]; rfl
  have b1 : Below w.heap.size w (w.alloc (.cells #[.int .u16 s, .int .u16 t, .int .u32 f, .int .u16 y, .slice a n c] 26)) := (Below.refl _ _).alloc (Nat.le_refl _) _
  go_enter Try.func4, Try.ntmps4
  go_wp2_with fail
  generalize (w.alloc (.cells #[.int .u16 s, .int .u16 t, .int .u32 f, .int .u16 y, .slice a n c] 26)) = w1 at *
  refine (begun9 _).mono ?_
  rintro e w2 ⟨rfl, d2⟩
  have q2 := (d2.cell (p := ⟨w.heap.size, 4, none⟩) (cell_lt q1)).trans q1
  have HB : Hid (Below w.heap.size w w2) := b1.trans (d2.mono b1.size)
  clear b1 d2 q1
  by_cases hn : n ≤ 70
  · have i0 : decide ((70 : Int) < (n : Int)) = false := by simp; omega
    have i1 : (80 : Int) < (m : Int) := by omega
    clear h hn
    go_wp2
    go_ret
    exact ⟨rfl, HB.out⟩
  · have i0 : (70 : Int) < (n : Int) := by omega
    clear h hn
    go_wp2
    go_ret
    exact ⟨rfl, HB.out⟩

set_option maxRecDepth 100000 in
set_option maxHeartbeats 2000000 in
theorem core (s t f y : Nat) (a : Option Addr) (n c : Nat) (x : Nat → Nat) (a1 : Option Addr) (m c1 : Nat) (z : Nat → Nat) (w : World) (ls : s < 65536) (lt : t < 65536) (lf : f < 4294967296) (ly : y < 65536) (hx : BytesAt w a n x) (hz : BytesAt w a1 m z) (hc1 : m ≤ c1) (hn : n ≤ 70) (hm : m ≤ 80) :
    Calls Try.prog 4 #[.agg #[.int .u16 (s : Int), .int .u16 (t : Int), .int .u32 (f : Int), .int .u16 (y : Int), .slice a n c], .slice a1 m c1] w fun e w' => e = .returned (.bool true) ∧ Below w.heap.size w w' := by
  have HX : Hid (BytesAt w a n x) := hx
  have HZ : Hid (BytesAt w a1 m z) := hz
  have i0 : decide ((70 : Int) < (n : Int)) = false := by simp; omega
  have i1 : decide ((80 : Int) < (m : Int)) = false := by simp; omega
  have D1 := DatAt.made w 26 s t f y a n c
  have b1 : Below w.heap.size w (w.alloc (.cells #[.int .u16 (s : Int), .int .u16 (t : Int), .int .u32 (f : Int), .int .u16 (y : Int), .slice a n c] 26)) := (Below.refl _ _).alloc (Nat.le_refl _) _
  clear hx hz
  go_enter Try.func4, Try.ntmps4
  go_wp2_with fail
  generalize (w.alloc (.cells #[.int .u16 (s : Int), .int .u16 (t : Int), .int .u32 (f : Int), .int .u16 (y : Int), .slice a n c] 26)) = w1 at *
  refine (begun9 _).mono ?_
  rintro e w2 ⟨rfl, d2⟩
  have D2 := D1.grew d2
  have b2 := b1.trans (d2.mono b1.size)
  have p0 := D2.c0
  have p1 := D2.c1
  have p2 := D2.c2
  have p3 := D2.c3
  have p4 := D2.c4
  clear D1 b1 d2
  go_wp2_with fail
  clear p0 p1 p2 p3 p4 i0 i1
  refine (hput_any s t f y a n c x w2 (HX.out.grew b2) ls lt lf ly).mono ?_
  intro e w3 h3
  by_cases hf : 1 ≤ n ∧ n ≤ 64
  · obtain ⟨e1, e2⟩ := put_fit (fit_yes hf.1 hf.2)
    rw [e1, e2] at h3
    clear e1 e2
    obtain ⟨r3, c3, rfl, hc3, -, P3, d3⟩ := h3
    have i2 : (1 : Int) ≤ (n : Int) := by omega
    have i3 : (n : Int) ≤ 64 := by omega
    have D3 := D2.grew d3
    have b3 := b2.trans (d3.mono b2.size)
    have p4 := D3.c4
    clear d3 b2 D2
    go_wp2_with fail
    refine (htake_any r3 (10 + n) c3 _ w3 P3 hc3).mono ?_
    intro e w4 h4
    obtain ⟨r4, c4, rfl, -, -, Y4, d4⟩ := h4.ofPut hf.1 hf.2 ls lt lf ly
    have a5 : Below w4.heap.size w4 (w4.alloc (.cells #[.int .u16 (s : Int), .int .u16 (t : Int), .int .u32 (f : Int), .int .u16 (y : Int), .slice r4 n c4] 26)) := (Below.refl _ _).alloc (Nat.le_refl _) _
    have A5 := DatAt.made w4 26 s t f y r4 n c4
    have D5 := (D3.grew d4).grew a5
    have Y5 := Y4.grew a5
    have b4 := b3.trans (d4.mono b3.size)
    have b5 := b4.trans (a5.mono b4.size)
    have g0 := A5.c0
    have g1 := A5.c1
    have g2 := A5.c2
    have g3 := A5.c3
    have g4 := A5.c4
    have q0 := D5.c0
    have q1 := D5.c1
    have q2 := D5.c2
    have q3 := D5.c3
    have q4 := D5.c4
    clear p4 h4 P3 hc3 d4 a5 A5 D5 D3 Y4 b3 b4 hf
    go_wp2_with fail
    generalize (w4.alloc (.cells #[.int .u16 (s : Int), .int .u16 (t : Int), .int .u32 (f : Int), .int .u16 (y : Int), .slice r4 n c4] 26)) = w5 at *
    clear g0 g1 g2 g3 g4 q0 q1 q2 q3 q4
    refine (same_any s t f y n a r4 c c4 x w5 (HX.out.grew b5) Y5).mono ?_
    rintro e w6 ⟨rfl, d6⟩
    have b6 := b5.trans (d6.mono b5.size)
    clear b5 d6 Y5 i2 i3
    go_wp2_with fail
    refine (htake_any a1 m c1 z w6 (HZ.out.grew b6) hc1).mono ?_
    intro e w7 h7
    by_cases hok : 11 ≤ m ∧ m ≤ 74
    · obtain ⟨s', hs'⟩ : ∃ s', s' = Crc.numTo z 2 := ⟨_, rfl⟩
      obtain ⟨t', ht'⟩ : ∃ t', t' = Crc.numTo (fun i => z (2 + i)) 2 := ⟨_, rfl⟩
      obtain ⟨f', hf'⟩ : ∃ f', f' = Crc.numTo (fun i => z (4 + i)) 4 := ⟨_, rfl⟩
      obtain ⟨y', hy'⟩ : ∃ y', y' = Crc.numTo (fun i => z (8 + i)) 2 := ⟨_, rfl⟩
      obtain ⟨k, hk⟩ : ∃ k, k = m - 10 := ⟨_, rfl⟩
      have lz := HZ.out.lt
      have ls' : s' < 65536 := by rw [hs']; exact Crc.numTo_lt 2 fun i hi => lz _ (by omega)
      have lt' : t' < 65536 := by rw [ht']; exact Crc.numTo_lt 2 fun i hi => lz _ (by omega)
      have lf' : f' < 4294967296 := by rw [hf']; exact Crc.numTo_lt 4 fun i hi => lz _ (by omega)
      have ly' : y' < 65536 := by rw [hy']; exact Crc.numTo_lt 2 fun i hi => lz _ (by omega)
      have h7 := h7.some hok.1 hok.2
      rw [← hs', ← ht', ← hf', ← hy', ← hk] at h7
      have HL : Hid (strOf (10 + k) (laid s' t' f' y' (fun i => z (10 + i))) = strOf m z) := by
        show _ = _
        rw [show m = 10 + k by omega, hs', ht', hf', hy']
        exact strOf_congr fun i _ => laid_taken (n := m) (by omega) lz i
      obtain ⟨r7, c7, rfl, -, -, B7, d7⟩ := h7
      have k1 : 1 ≤ k := by omega
      have k2 : k ≤ 64 := by omega
      have i5 : (11 : Int) ≤ (m : Int) := by omega
      have i6 : (m : Int) ≤ 74 := by omega
      have a8 : Below w7.heap.size w7 (w7.alloc (.cells #[.int .u16 (s' : Int), .int .u16 (t' : Int), .int .u32 (f' : Int), .int .u16 (y' : Int), .slice r7 k c7] 26)) := (Below.refl _ _).alloc (Nat.le_refl _) _
      have D8 := DatAt.made w7 26 s' t' f' y' r7 k c7
      have B8 := B7.grew a8
      have b7 := b6.trans (d7.mono b6.size)
      have b8 := b7.trans (a8.mono b7.size)
      have p0 := D8.c0
      have p1 := D8.c1
      have p2 := D8.c2
      have p3 := D8.c3
      have p4 := D8.c4
      clear D8 a8 B7 b7 d7 hs' ht' hf' hy' hk b6 lz
      go_wp2_with fail
      clear p0 p1 p2 p3 p4 i5 i6
      generalize (w7.alloc (.cells #[.int .u16 (s' : Int), .int .u16 (t' : Int), .int .u32 (f' : Int), .int .u16 (y' : Int), .slice r7 k c7] 26)) = w8 at *
      refine (hput_yes s' t' f' y' r7 k c7 _ w8 B8 k1 k2 ls' lt' lf' ly').mono ?_
      rintro e w9 ⟨r9, c9, rfl, -, -, B9, d9⟩
      have b9 : Hid (Below w.heap.size w w9) := b8.trans (d9.mono b8.size)
      have e1 := conv_bytes r9 (10 + k) c9 _ _ B9
      rw [HL.out] at e1
      have e2 := conv_bytes a1 m c1 _ _ (HZ.out.grew b9.out)
      clear B8 B9 d9 b8 HL
      go_wp2
      go_ret
      exact ⟨rfl, b9.out⟩
    · obtain ⟨r7, c7, rfl, -, -, -, d7⟩ := h7.none hok
      have i5 : ((decide ((11 : Int) ≤ (m : Int))) && (decide ((m : Int) ≤ 74))) = false := by simp; omega
      have a8 : Below w7.heap.size w7 (w7.alloc (.cells #[.int .u16 0, .int .u16 0, .int .u32 0, .int .u16 0, .slice r7 0 c7] 26)) := (Below.refl _ _).alloc (Nat.le_refl _) _
      have D8 := DatAt.made w7 26 0 0 0 0 r7 0 c7
      change DatAt (w7.alloc (.cells #[.int .u16 0, .int .u16 0, .int .u32 0, .int .u16 0, .slice r7 0 c7] 26)) _ _ _ _ _ _ _ _ at D8
      have b7 := b6.trans (d7.mono b6.size)
      have b8 := b7.trans (a8.mono b7.size)
      have p0 := D8.c0
      have p1 := D8.c1
      have p2 := D8.c2
      have p3 := D8.c3
      have p4 := D8.c4
      clear D8 a8 b7 d7 h7 b6
      by_cases h11 : 11 ≤ m
      · have i5 : (11 : Int) ≤ (m : Int) := by omega
        have i6 : decide ((m : Int) ≤ 74) = false := by simp; omega
        clear hok h11
        go_wp2_with fail
        generalize (w7.alloc (.cells #[.int .u16 0, .int .u16 0, .int .u32 0, .int .u16 0, .slice r7 0 c7] 26)) = w8 at *
        refine (hput_no 0 0 0 0 r7 0 c7 w8 (by decide) (fun _ => 0)).mono ?_
        rintro e w9 ⟨r9, c9, rfl, -, -, -, d9⟩
        have b9 : Hid (Below w.heap.size w w9) := b8.trans (d9.mono b8.size)
        clear p0 p1 p2 p3 p4 d9 b8
        go_wp2
        go_ret
        exact ⟨rfl, b9.out⟩
      · have i5 : decide ((11 : Int) ≤ (m : Int)) = false := by simp; omega
        clear hok h11
        go_wp2_with fail
        generalize (w7.alloc (.cells #[.int .u16 0, .int .u16 0, .int .u32 0, .int .u16 0, .slice r7 0 c7] 26)) = w8 at *
        refine (hput_no 0 0 0 0 r7 0 c7 w8 (by decide) (fun _ => 0)).mono ?_
        rintro e w9 ⟨r9, c9, rfl, -, -, -, d9⟩
        have b9 : Hid (Below w.heap.size w w9) := b8.trans (d9.mono b8.size)
        clear p0 p1 p2 p3 p4 d9 b8
        go_wp2
        go_ret
        exact ⟨rfl, b9.out⟩
  · obtain ⟨e1, e2⟩ := put_unfit (fit_no hf)
    rw [e1, e2] at h3
    clear e1 e2
    obtain ⟨r3, c3, rfl, -, -, -, d3⟩ := h3
    have D3 := D2.grew d3
    have b3 := b2.trans (d3.mono b2.size)
    have p4 := D3.c4
    clear d3 b2 D2 D3
    by_cases h1 : 1 ≤ n
    · have i2 : (1 : Int) ≤ (n : Int) := by omega
      have i3 : decide ((n : Int) ≤ 64) = false := by simp; omega
      clear hf h1
      go_wp2_with fail
      clear p4 i2 i3
      refine (htake_any a1 m c1 z w3 (HZ.out.grew b3) hc1).mono ?_
      intro e w7 h7
      by_cases hok : 11 ≤ m ∧ m ≤ 74
      · obtain ⟨s', hs'⟩ : ∃ s', s' = Crc.numTo z 2 := ⟨_, rfl⟩
        obtain ⟨t', ht'⟩ : ∃ t', t' = Crc.numTo (fun i => z (2 + i)) 2 := ⟨_, rfl⟩
        obtain ⟨f', hf'⟩ : ∃ f', f' = Crc.numTo (fun i => z (4 + i)) 4 := ⟨_, rfl⟩
        obtain ⟨y', hy'⟩ : ∃ y', y' = Crc.numTo (fun i => z (8 + i)) 2 := ⟨_, rfl⟩
        obtain ⟨k, hk⟩ : ∃ k, k = m - 10 := ⟨_, rfl⟩
        have lz := HZ.out.lt
        have ls' : s' < 65536 := by rw [hs']; exact Crc.numTo_lt 2 fun i hi => lz _ (by omega)
        have lt' : t' < 65536 := by rw [ht']; exact Crc.numTo_lt 2 fun i hi => lz _ (by omega)
        have lf' : f' < 4294967296 := by rw [hf']; exact Crc.numTo_lt 4 fun i hi => lz _ (by omega)
        have ly' : y' < 65536 := by rw [hy']; exact Crc.numTo_lt 2 fun i hi => lz _ (by omega)
        have h7 := h7.some hok.1 hok.2
        rw [← hs', ← ht', ← hf', ← hy', ← hk] at h7
        have HL : Hid (strOf (10 + k) (laid s' t' f' y' (fun i => z (10 + i))) = strOf m z) := by
          show _ = _
          rw [show m = 10 + k by omega, hs', ht', hf', hy']
          exact strOf_congr fun i _ => laid_taken (n := m) (by omega) lz i
        obtain ⟨r7, c7, rfl, -, -, B7, d7⟩ := h7
        have k1 : 1 ≤ k := by omega
        have k2 : k ≤ 64 := by omega
        have i5 : (11 : Int) ≤ (m : Int) := by omega
        have i6 : (m : Int) ≤ 74 := by omega
        have a8 : Below w7.heap.size w7 (w7.alloc (.cells #[.int .u16 (s' : Int), .int .u16 (t' : Int), .int .u32 (f' : Int), .int .u16 (y' : Int), .slice r7 k c7] 26)) := (Below.refl _ _).alloc (Nat.le_refl _) _
        have D8 := DatAt.made w7 26 s' t' f' y' r7 k c7
        have B8 := B7.grew a8
        have b7 := b3.trans (d7.mono b3.size)
        have b8 := b7.trans (a8.mono b7.size)
        have p0 := D8.c0
        have p1 := D8.c1
        have p2 := D8.c2
        have p3 := D8.c3
        have p4 := D8.c4
        clear D8 a8 B7 b7 d7 hs' ht' hf' hy' hk b3 lz
        go_wp2_with fail
        clear p0 p1 p2 p3 p4 i5 i6
        generalize (w7.alloc (.cells #[.int .u16 (s' : Int), .int .u16 (t' : Int), .int .u32 (f' : Int), .int .u16 (y' : Int), .slice r7 k c7] 26)) = w8 at *
        refine (hput_yes s' t' f' y' r7 k c7 _ w8 B8 k1 k2 ls' lt' lf' ly').mono ?_
        rintro e w9 ⟨r9, c9, rfl, -, -, B9, d9⟩
        have b9 : Hid (Below w.heap.size w w9) := b8.trans (d9.mono b8.size)
        have e1 := conv_bytes r9 (10 + k) c9 _ _ B9
        rw [HL.out] at e1
        have e2 := conv_bytes a1 m c1 _ _ (HZ.out.grew b9.out)
        clear B8 B9 d9 b8 HL
        go_wp2
        go_ret
        exact ⟨rfl, b9.out⟩
      · obtain ⟨r7, c7, rfl, -, -, -, d7⟩ := h7.none hok
        have i5 : ((decide ((11 : Int) ≤ (m : Int))) && (decide ((m : Int) ≤ 74))) = false := by simp; omega
        have a8 : Below w7.heap.size w7 (w7.alloc (.cells #[.int .u16 0, .int .u16 0, .int .u32 0, .int .u16 0, .slice r7 0 c7] 26)) := (Below.refl _ _).alloc (Nat.le_refl _) _
        have D8 := DatAt.made w7 26 0 0 0 0 r7 0 c7
        change DatAt (w7.alloc (.cells #[.int .u16 0, .int .u16 0, .int .u32 0, .int .u16 0, .slice r7 0 c7] 26)) _ _ _ _ _ _ _ _ at D8
        have b7 := b3.trans (d7.mono b3.size)
        have b8 := b7.trans (a8.mono b7.size)
        have p0 := D8.c0
        have p1 := D8.c1
        have p2 := D8.c2
        have p3 := D8.c3
        have p4 := D8.c4
        clear D8 a8 b7 d7 h7 b3
        by_cases h11 : 11 ≤ m
        · have i5 : (11 : Int) ≤ (m : Int) := by omega
          have i6 : decide ((m : Int) ≤ 74) = false := by simp; omega
          clear hok h11
          go_wp2_with fail
          generalize (w7.alloc (.cells #[.int .u16 0, .int .u16 0, .int .u32 0, .int .u16 0, .slice r7 0 c7] 26)) = w8 at *
          refine (hput_no 0 0 0 0 r7 0 c7 w8 (by decide) (fun _ => 0)).mono ?_
          rintro e w9 ⟨r9, c9, rfl, -, -, -, d9⟩
          have b9 : Hid (Below w.heap.size w w9) := b8.trans (d9.mono b8.size)
          clear p0 p1 p2 p3 p4 d9 b8
          go_wp2
          go_ret
          exact ⟨rfl, b9.out⟩
        · have i5 : decide ((11 : Int) ≤ (m : Int)) = false := by simp; omega
          clear hok h11
          go_wp2_with fail
          generalize (w7.alloc (.cells #[.int .u16 0, .int .u16 0, .int .u32 0, .int .u16 0, .slice r7 0 c7] 26)) = w8 at *
          refine (hput_no 0 0 0 0 r7 0 c7 w8 (by decide) (fun _ => 0)).mono ?_
          rintro e w9 ⟨r9, c9, rfl, -, -, -, d9⟩
          have b9 : Hid (Below w.heap.size w w9) := b8.trans (d9.mono b8.size)
          clear p0 p1 p2 p3 p4 d9 b8
          go_wp2
          go_ret
          exact ⟨rfl, b9.out⟩
    · have i2 : decide ((1 : Int) ≤ (n : Int)) = false := by simp; omega
      clear hf h1
      go_wp2_with fail
      clear p4 i2
      refine (htake_any a1 m c1 z w3 (HZ.out.grew b3) hc1).mono ?_
      intro e w7 h7
      by_cases hok : 11 ≤ m ∧ m ≤ 74
      · obtain ⟨s', hs'⟩ : ∃ s', s' = Crc.numTo z 2 := ⟨_, rfl⟩
        obtain ⟨t', ht'⟩ : ∃ t', t' = Crc.numTo (fun i => z (2 + i)) 2 := ⟨_, rfl⟩
        obtain ⟨f', hf'⟩ : ∃ f', f' = Crc.numTo (fun i => z (4 + i)) 4 := ⟨_, rfl⟩
        obtain ⟨y', hy'⟩ : ∃ y', y' = Crc.numTo (fun i => z (8 + i)) 2 := ⟨_, rfl⟩
        obtain ⟨k, hk⟩ : ∃ k, k = m - 10 := ⟨_, rfl⟩
        have lz := HZ.out.lt
        have ls' : s' < 65536 := by rw [hs']; exact Crc.numTo_lt 2 fun i hi => lz _ (by omega)
        have lt' : t' < 65536 := by rw [ht']; exact Crc.numTo_lt 2 fun i hi => lz _ (by omega)
        have lf' : f' < 4294967296 := by rw [hf']; exact Crc.numTo_lt 4 fun i hi => lz _ (by omega)
        have ly' : y' < 65536 := by rw [hy']; exact Crc.numTo_lt 2 fun i hi => lz _ (by omega)
        have h7 := h7.some hok.1 hok.2
        rw [← hs', ← ht', ← hf', ← hy', ← hk] at h7
        have HL : Hid (strOf (10 + k) (laid s' t' f' y' (fun i => z (10 + i))) = strOf m z) := by
          show _ = _
          rw [show m = 10 + k by omega, hs', ht', hf', hy']
          exact strOf_congr fun i _ => laid_taken (n := m) (by omega) lz i
        obtain ⟨r7, c7, rfl, -, -, B7, d7⟩ := h7
        have k1 : 1 ≤ k := by omega
        have k2 : k ≤ 64 := by omega
        have i5 : (11 : Int) ≤ (m : Int) := by omega
        have i6 : (m : Int) ≤ 74 := by omega
        have a8 : Below w7.heap.size w7 (w7.alloc (.cells #[.int .u16 (s' : Int), .int .u16 (t' : Int), .int .u32 (f' : Int), .int .u16 (y' : Int), .slice r7 k c7] 26)) := (Below.refl _ _).alloc (Nat.le_refl _) _
        have D8 := DatAt.made w7 26 s' t' f' y' r7 k c7
        have B8 := B7.grew a8
        have b7 := b3.trans (d7.mono b3.size)
        have b8 := b7.trans (a8.mono b7.size)
        have p0 := D8.c0
        have p1 := D8.c1
        have p2 := D8.c2
        have p3 := D8.c3
        have p4 := D8.c4
        clear D8 a8 B7 b7 d7 hs' ht' hf' hy' hk b3 lz
        go_wp2_with fail
        clear p0 p1 p2 p3 p4 i5 i6
        generalize (w7.alloc (.cells #[.int .u16 (s' : Int), .int .u16 (t' : Int), .int .u32 (f' : Int), .int .u16 (y' : Int), .slice r7 k c7] 26)) = w8 at *
        refine (hput_yes s' t' f' y' r7 k c7 _ w8 B8 k1 k2 ls' lt' lf' ly').mono ?_
        rintro e w9 ⟨r9, c9, rfl, -, -, B9, d9⟩
        have b9 : Hid (Below w.heap.size w w9) := b8.trans (d9.mono b8.size)
        have e1 := conv_bytes r9 (10 + k) c9 _ _ B9
        rw [HL.out] at e1
        have e2 := conv_bytes a1 m c1 _ _ (HZ.out.grew b9.out)
        clear B8 B9 d9 b8 HL
        go_wp2
        go_ret
        exact ⟨rfl, b9.out⟩
      · obtain ⟨r7, c7, rfl, -, -, -, d7⟩ := h7.none hok
        have i5 : ((decide ((11 : Int) ≤ (m : Int))) && (decide ((m : Int) ≤ 74))) = false := by simp; omega
        have a8 : Below w7.heap.size w7 (w7.alloc (.cells #[.int .u16 0, .int .u16 0, .int .u32 0, .int .u16 0, .slice r7 0 c7] 26)) := (Below.refl _ _).alloc (Nat.le_refl _) _
        have D8 := DatAt.made w7 26 0 0 0 0 r7 0 c7
        change DatAt (w7.alloc (.cells #[.int .u16 0, .int .u16 0, .int .u32 0, .int .u16 0, .slice r7 0 c7] 26)) _ _ _ _ _ _ _ _ at D8
        have b7 := b3.trans (d7.mono b3.size)
        have b8 := b7.trans (a8.mono b7.size)
        have p0 := D8.c0
        have p1 := D8.c1
        have p2 := D8.c2
        have p3 := D8.c3
        have p4 := D8.c4
        clear D8 a8 b7 d7 h7 b3
        by_cases h11 : 11 ≤ m
        · have i5 : (11 : Int) ≤ (m : Int) := by omega
          have i6 : decide ((m : Int) ≤ 74) = false := by simp; omega
          clear hok h11
          go_wp2_with fail
          generalize (w7.alloc (.cells #[.int .u16 0, .int .u16 0, .int .u32 0, .int .u16 0, .slice r7 0 c7] 26)) = w8 at *
          refine (hput_no 0 0 0 0 r7 0 c7 w8 (by decide) (fun _ => 0)).mono ?_
          rintro e w9 ⟨r9, c9, rfl, -, -, -, d9⟩
          have b9 : Hid (Below w.heap.size w w9) := b8.trans (d9.mono b8.size)
          clear p0 p1 p2 p3 p4 d9 b8
          go_wp2
          go_ret
          exact ⟨rfl, b9.out⟩
        · have i5 : decide ((11 : Int) ≤ (m : Int)) = false := by simp; omega
          clear hok h11
          go_wp2_with fail
          generalize (w7.alloc (.cells #[.int .u16 0, .int .u16 0, .int .u32 0, .int .u16 0, .slice r7 0 c7] 26)) = w8 at *
          refine (hput_no 0 0 0 0 r7 0 c7 w8 (by decide) (fun _ => 0)).mono ?_
          rintro e w9 ⟨r9, c9, rfl, -, -, -, d9⟩
          have b9 : Hid (Below w.heap.size w w9) := b8.trans (d9.mono b8.size)
          clear p0 p1 p2 p3 p4 d9 b8
          go_wp2
          go_ret
          exact ⟨rfl, b9.out⟩

theorem walk (s t f y : Nat) (a : Option Addr) (n c : Nat) (x : Nat → Nat) (a1 : Option Addr) (m c1 : Nat) (z : Nat → Nat) (w : World) (h0 : s < 65536 ∧ t < 65536 ∧ f < 4294967296 ∧ y < 65536 ∧ BytesAt w a n x ∧ n ≤ c ∧ c ≤ maxLen) (h1 : BytesAt w a1 m z ∧ m ≤ c1 ∧ c1 ≤ maxLen) :
    Calls Try.prog 4 #[.agg #[.int .u16 (s : Int), .int .u16 (t : Int), .int .u32 (f : Int), .int .u16 (y : Int), .slice a n c], .slice a1 m c1] w fun e w' => e = .returned (.bool true) ∧ Below w.heap.size w w' := by
  obtain ⟨ls, lt, lf, ly, hx, -, -⟩ := h0
  by_cases h : n ≤ 70 ∧ m ≤ 80
  · exact core s t f y a n c x a1 m c1 z w ls lt lf ly hx h1.1 h1.2.1 h.1 h.2
  · exact long s t f y a n c a1 m c1 w h

set_option maxRecDepth 100000 in
theorem lifted (os : Os) (started : os.Started) (H : Type) (enc : TypeId × Value → H) :
    ReturnsInHanded {} Try.checked os 4 .any (Rows.headBackSpec.pre6 enc Try.prog Try.f4 Rows.headBackRow.domain false) (Rows.headBackSpec.post enc Try.prog Try.f4 false true false false) := by
  refine returnsInHanded_of_change (C := Try.checked) own started (by kernel_rfl) Try.func4
    (ChangeSpec.witness6 (enc := enc) (C := Try.checked) false ⟨#[], #[.agg #[.int .u16 0, .int .u16 0, .int .u32 0, .int .u16 0, .slice none 0 0], .slice none 0 0], []⟩ 8 (by kernel_rfl) (by kernel_rfl) (by kernel_rfl) (by kernel_rfl)) ?_
  intro W base args ds gs before hval0 hW hcnd _
  have hval : ∀ (j : Nat) t v, Try.f4.params[j]? = some t → args[j]? = some v → Value.okWide Try.prog W .any base t v := hval0
  have hW' := hW
  obtain ⟨p, q, hA0, hV, rfl, hfz, hnd⟩ := hW
  have hA : DataW.TrodAll enc Try.prog W 0 (fun _ => true) true Try.f4.params.toList args.toList ds p := hA0
  rw [Try.params4] at hA hval
  obtain ⟨v0, vs0, d0, ds0, p0, q0, hargs, rfl, rfl, h0, r0⟩ := trodAll_cons hA
  obtain ⟨v1, vs1, d1, ds1, p1, q1, rfl, rfl, rfl, h1, r1⟩ := trodAll_cons r0
  obtain ⟨rfl, rfl, rfl⟩ := trodAll_nil r1
  obtain rfl : args = #[v0, v1] := by cases args; simp_all
  obtain ⟨rfl, rfl⟩ := trodVars_none hV
  have k0 := h0
  have lt0 : ∀ x ∈ p0, x.block < W.heap.size := by obtain ⟨m, hm⟩ := k0; exact DataW.trod_lt m _ _ _ hm
  obtain ⟨s0, t0, f0, y0, a0, n0, c0, x0, rfl, w0⟩ := open_data (hval 0 26 v0 rfl rfl) h0
  obtain ⟨a1, len1, cap1, rfl⟩ := okWide_slice Try.underlying24 (hval 1 24 v1 rfl rfl)
  have k1 := h1
  have lt1 : ∀ x ∈ p1, x.block < W.heap.size := by obtain ⟨m, hm⟩ := k1; exact DataW.trod_lt m _ _ _ hm
  obtain ⟨x1, w1⟩ : ∃ x, BytesAt W a1 len1 x ∧ len1 ≤ cap1 ∧ cap1 ≤ maxLen := open_bytes Try.underlying24 Try.underlying5 (by kernel_rfl) h1
  clear hA0 hval0
  refine (walk s0 t0 f0 y0 a0 n0 c0 x0 a1 len1 cap1 x1 W w0 w1).mono fun e W' ⟨he, bel⟩ => ?_
  subst he
  exact ⟨_, rfl, _, _, _, [], _, [], hW', trodAll_mk1 (shut_bool Try.underlying4 _), (trodAll_cons_mk (Below.trod laidOut (by kernel_rfl) (of_decide_eq_true (by kernel_rfl)) k0 bel lt0) (trodAll_cons_mk (Below.trod laidOut (by kernel_rfl) (of_decide_eq_true (by kernel_rfl)) k1 bel lt1) trodAll_mk0)), rfl, bel.frame _, fun h => by cases h⟩

theorem over : Rows.headBackRow.holds Try.pinned (OpenSpec.ofChange Rows.headBackSpec) :=
  OpenClaim.holds_of_wide 4 Try.f4 rfl rfl rfl rfl rfl rfl rfl ⟨rfl, rfl, rfl, rfl, rfl⟩ rfl rfl rfl rfl rfl (by kernel_rfl) Try.func4 (by kernel_rfl)
    (of_decide_eq_true (by kernel_rfl)) (by unfold Func.isWrapper; first | (rw [if_pos (by decide +kernel)]; kernel_rfl) | (rw [if_neg (by decide +kernel)]; exact ⟨rfl, rfl⟩))
    (fun os started H enc _ => lifted os started H enc)

theorem proved : Rows.HeadBackSaid := over
end Go.Proofs.Ytpabhllejmeogaa.headBack
namespace Go.Proofs.Ytpabhllejmeogaa
theorem headBack_holds : Rows.HeadBackSaid := headBack.proved
#print axioms headBack_holds
end Go.Proofs.Ytpabhllejmeogaa

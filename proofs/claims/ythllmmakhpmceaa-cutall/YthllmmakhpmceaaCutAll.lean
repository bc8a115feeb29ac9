/-
  Package cut counts, splits and joins as the document's functions do, and leaves what it was lent as it was: the call returns true for all bytes, numbers and lists of texts (no condition).
-/
import Derived.Test.YthllmmakhpmceaaRows
import Derived.WalkKit
import Derived.ProofKit
import Derived.OpenShut
import Derived.ShutString
import Derived.ChangeOld
import Derived.Below
import Derived.Carry
import Derived.Test.YthllmmakhpmceaaOpn
import Derived.Test.YthllmmakhpmceaaRjo
import Derived.Test.YthllmmakhpmceaaCbg
import Derived.Test.YthllmmakhpmceaaLen
namespace Go.Proofs.Ythllmmakhpmceaa.cutAll
open Go.ChangeShapes Go.WideShapes Go.ChangeAt Go.RowKit
open Go.ChangeMaps (open_string shut_string)
set_option linter.unusedVariables false

theorem own : ownKnob Try.prog.godebug = none := by kernel_rfl
theorem laidOut : laidOutB Try.prog = true := by kernel_rfl

open Go.Deep

/-- A list of texts was answered. -/
def ListAns (w : World) (n : Nat) (S : Nat → ByteArray) (ok : Bool) (e : Ending) (w' : World) : Prop :=
  ∃ a c, e = .returned (.tuple #[.slice a n c, .bool ok]) ∧ TextsAt w' a n S ∧ Below w.heap.size w w'
/-- A text was answered. -/
def TextAns (w : World) (S : ByteArray) (ok : Bool) (e : Ending) (w' : World) : Prop :=
  ∃ a n c x, e = .returned (.tuple #[.slice a n c, .bool ok]) ∧ BytesAt w' a n x ∧ strOf n x = S ∧ Below w.heap.size w w'

theorem count_both (n s : Int) : ∃ (k : Int) (ok : Bool), (∀ w, Calls Try.prog 8 #[.int .i64 n, .int .i64 s] w fun e w' => e = .returned (.tuple #[.int .i64 k, .bool ok]) ∧ Below w.heap.size w w') ∧
    (∀ w, Calls Try.prog 9 #[.int .i64 n, .int .i64 s] w fun e w' => e = .returned (.tuple #[.int .i64 k, .bool ok]) ∧ w' = w) := by
  by_cases h : 1 ≤ s ∧ s ≤ 64 ∧ 1 ≤ n ∧ n ≤ 32 * s
  · obtain ⟨a, rfl⟩ : ∃ a : Nat, n = a := ⟨n.toNat, by omega⟩
    obtain ⟨b, rfl⟩ : ∃ b : Nat, s = b := ⟨s.toNat, by omega⟩
    exact ⟨_, _, fun w => face_count_yes a b w (by omega) (by omega) (by omega) (by omega), fun w => rcount_yes a b w (by omega) (by omega) (by omega) (by omega)⟩
  · exact ⟨_, _, fun w => face_count_no n s w h, fun w => rcount_no n s w h⟩

theorem split_both (n : Nat) (s : Int) (x : Nat → Nat) : ∃ (k : Nat) (S : Nat → ByteArray) (ok : Bool), k ≤ 32 ∧ (∀ a c w y, BytesAt w a n y → n ≤ c → (∀ i, i < n → y i = x i) → Calls Try.prog 10 #[.slice a n c, .int .i64 s] w fun e w' => ListAns w k S ok e w') ∧
    (∀ a c w, BytesAt w a n x → Calls Try.prog 11 #[.slice a n c, .int .i64 s] w fun e w' => ListAns w k S ok e w') := by
  by_cases h : 1 ≤ s ∧ s ≤ 64 ∧ 1 ≤ (n : Int) ∧ (n : Int) ≤ 32 * s
  · obtain ⟨b, rfl⟩ : ∃ b : Nat, s = b := ⟨s.toNat, by omega⟩
    refine ⟨cntOf n b, fun i => strOf b (piece x n b i), true, cnt_le n b (by omega) (by omega), fun a c w y hy hc hxy => ?_, fun a c w hx => ?_⟩
    · refine (face_split_yes a n c b _ y w hy hc (by omega) (by omega) (by omega) (by omega) rfl).mono ?_
      rintro e w' ⟨L, A, rfl, -, hR, hP, hB⟩
      obtain ⟨B, -, hl⟩ := pcs_lists hR hP (by omega)
      refine ⟨_, _, rfl, fun hn => ?_, hB⟩
      obtain ⟨b', o', e', hc'⟩ := hl hn
      refine ⟨b', o', e', fun i hi => ?_⟩
      obtain ⟨h1, -, -, h2⟩ := hc' i hi
      refine ⟨_, _, _, _, h1, h2, strOf_congr fun j _ => ?_⟩
      unfold piece
      by_cases g : i * b + j < n
      · rw [if_pos g, if_pos g, hxy _ g]
      · rw [if_neg g, if_neg g]
    · refine (rsplit_yes a n c b _ x w hx (by omega) (by omega) (by omega) (by omega) rfl).mono ?_
      rintro e w' ⟨v, rfl, hO, hB⟩
      have k1 : 0 < cntOf n b := by unfold cntOf; exact (Nat.le_div_iff_mul_le (by omega)).2 (by omega)
      obtain ⟨g, cap, rfl, -, hl⟩ := hO.lst k1 (by omega)
      refine ⟨_, _, rfl, fun _ => ⟨g, 0, rfl, fun i hi => ?_⟩, hB⟩
      obtain ⟨b', c', h1, h2, -⟩ := hl.at i hi
      exact ⟨_, _, _, _, by rw [Nat.zero_add]; exact h1, h2, rfl⟩
  · refine ⟨0, fun _ => ⟨#[]⟩, false, by omega, fun a c w y _ _ _ => ?_, fun a c w _ => ?_⟩
    · refine (face_split_no a n c s w h).mono ?_
      rintro e w' ⟨rfl, hB⟩
      exact ⟨_, _, rfl, fun g => absurd g (by decide), hB⟩
    · refine (rsplit_no a n c s w h).mono ?_
      rintro e w' ⟨rfl, rfl⟩
      exact ⟨_, _, rfl, fun g => absurd g (by decide), Below.refl _ _⟩

theorem bytes_none (w : World) (a : Option Addr) (x : Nat → Nat) : BytesAt w a 0 x := ⟨fun g => absurd g (by decide), fun i hi => absurd hi (Nat.not_lt_zero i)⟩

theorem join_both (n : Nat) (A : Nat → Option Addr) (L C : Nat → Nat) (Z : Nat → Nat → Nat) (size : Int) (n2 : n ≤ 40) (hL : ∀ i, i < n → L i ≤ 70) : ∃ (S : ByteArray) (ok : Bool), (∀ a c w, ListsAt w a n A L C Z → Calls Try.prog 12 #[.slice a n c, .int .i64 size] w fun e w' => TextAns w S ok e w') ∧
    (∀ a c w, ListsAt w a n A L C Z → Calls Try.prog 13 #[.slice a n c, .int .i64 size] w fun e w' => TextAns w S ok e w') := by
  by_cases h : Good n L size
  · refine ⟨strOf size.toNat (joined Z (L 0)), true, fun a c w hl => ?_, fun a c w hl => ?_⟩
    · obtain ⟨h1, h2, ⟨h3, h4, h5, h6⟩, h7⟩ := h
      obtain ⟨z, rfl⟩ : ∃ z : Nat, size = z := ⟨size.toNat, by omega⟩
      rw [Int.toNat_natCast] at h7 ⊢
      refine (face_join_yes a n c (L 0) z A L C Z w hl h1 (by omega) h2 h3 h4 (by omega) (by omega) h7).mono ?_
      rintro e w' ⟨b, c', rfl, -, -, -, hB, hb⟩
      exact ⟨_, _, _, _, rfl, hB, rfl, hb⟩
    · refine (rjoin_some a n c A L C Z size w hl h.1 n2 hL).mono ?_
      rintro e w' ⟨hg, -⟩
      obtain ⟨a', c', rfl, hB, hb⟩ := hg h
      exact ⟨_, _, _, _, rfl, hB, rfl, hb⟩
  · refine ⟨strOf 0 (fun _ => 0), false, fun a c w hl => ?_, fun a c w hl => ?_⟩
    · refine (face_join_no a n c size w fun w1 b1 => ?_).mono ?_
      · by_cases h1 : 0 < n
        · by_cases h2 : ∀ i, i < n → L i = L 0
          · by_cases h3 : 1 ≤ L 0 ∧ L 0 ≤ 64 ∧ 1 ≤ size ∧ size ≤ 32 * (L 0 : Int)
            · obtain ⟨z, rfl⟩ : ∃ z : Nat, size = z := ⟨size.toNat, by omega⟩
              exact join_wrong a n c (L 0) z A L C Z w1 (hl.grew b1) h1 (by omega) h2 h3.1 h3.2.1 (by omega) (by omega) (fun g => h ⟨h1, h2, h3, by rw [Int.toNat_natCast]; exact g⟩)
            · exact join_far a n c (L 0) A L C Z size w1 (hl.grew b1) h1 (by omega) h2 (by omega)
          · exact join_odd a n c A L C Z size w1 (hl.grew b1) h1 (by omega) h2
        · obtain rfl : n = 0 := by omega
          exact join_none a c size w1
      · rintro e w' ⟨rfl, hb⟩
        exact ⟨_, _, _, _, rfl, bytes_none _ _ _, rfl, hb⟩
    · by_cases h1 : 0 < n
      · refine (rjoin_some a n c A L C Z size w hl h1 n2 hL).mono ?_
        rintro e w' ⟨-, hg⟩
        obtain ⟨rfl, hb⟩ := hg h
        exact ⟨_, _, _, _, rfl, bytes_none _ _ _, rfl, hb⟩
      · obtain rfl : n = 0 := by omega
        refine (rjoin_none a c L Z size w).mono ?_
        rintro e w' ⟨-, hg⟩
        obtain ⟨rfl, hb⟩ := hg h
        exact ⟨_, _, _, _, rfl, bytes_none _ _ _, rfl, hb⟩

set_option maxRecDepth 100000 in
set_option maxHeartbeats 400000 in
theorem long (a : Option Addr) (n c : Nat) (size symbol : Int) (a' : Option Addr) (n' c' : Nat) (w : World) (h : 300 < n ∨ 40 < n') :
    Calls Try.prog 3 #[.slice a n c, .int .i64 size, .int .i64 symbol, .slice a' n' c'] w fun e w' => e = .returned (.bool true) ∧ Below w.heap.size w w' := by
  go_enter Try.func3, Try.ntmps3
  go_wp2_with fail
  refine (begun4 _).mono ?_
  rintro e w0 ⟨rfl, b0⟩
  have HB : Hid (Below w.heap.size w w0) := b0
  clear b0
  by_cases h1 : 300 < n
  · have h2 : decide (300 < (n : Int)) = true := by simp; omega
    clear h
    go_wp2
    go_ret
    exact ⟨rfl, HB.out⟩
  · have h2 : decide (40 < (n' : Int)) = true := by simp; omega
    have h3 : decide (300 < (n : Int)) = false := by simp; omega
    clear h
    go_wp2
    go_ret
    exact ⟨rfl, HB.out⟩

set_option maxRecDepth 100000 in
set_option maxHeartbeats 1000000 in
theorem core (a : Option Addr) (n c : Nat) (x : Nat → Nat) (size symbol : Int) (a' : Option Addr) (n' c' : Nat) (A : Nat → Option Addr) (L C : Nat → Nat) (Z : Nat → Nat → Nat) (w : World) (hx : BytesAt w a n x) (hl : ListsAt w a' n' A L C Z) (hn : n ≤ 300) (hn' : n' ≤ 40) :
    Calls Try.prog 3 #[.slice a n c, .int .i64 size, .int .i64 symbol, .slice a' n' c'] w fun e w' => e = .returned (.bool true) ∧ Below w.heap.size w w' := by
  have h2 : decide (40 < (n' : Int)) = false := by simp; omega
  have h3 : decide (300 < (n : Int)) = false := by simp; omega
  have HX : Hid (BytesAt w a n x) := hx
  have HL : Hid (ListsAt w a' n' A L C Z) := hl
  clear hx hl
  go_enter Try.func3, Try.ntmps3
  go_wp2_with fail
  refine (begun4 _).mono ?_
  rintro e w0 ⟨rfl, b0⟩
  have HB : Hid (Below w.heap.size w w0) := b0
  have HX0 : Hid (BytesAt w0 a n x) := HX.out.grew b0
  have HL0 : Hid (ListsAt w0 a' n' A L C Z) := HL.out.grew b0
  clear b0 HX HL
  go_wp2_with fail
  go_loopw [9] (fun i wr => ∃ j : Nat, j ≤ n' ∧ i = .int .i64 j ∧ (∀ t, t < j → L t ≤ 70) ∧ wr = w0) (fun i _ => n' - (intOf i).toNat)
  case atStart => exact ⟨0, Nat.zero_le _, rfl, fun t ht => absurd ht (by omega), rfl⟩
  case round =>
    obtain ⟨j, hj, rfl, hL, hw⟩ := hrel
    subst wr
    have HQ : Hid (∀ t, t < j → L t ≤ 70) := hL
    clear hL
    by_cases hjn : j < n'
    · have i1 : (j : Int) < (n' : Int) := by omega
      obtain ⟨b, o, rfl, hc⟩ := HL0.out (by omega)
      have c1 := (hc j hjn).1
      clear hc
      by_cases g : L j ≤ 70
      · have g1 : decide (70 < (L j : Int)) = false := by simp; omega
        go_wp2
        go_roundw
        case rel => exact ⟨j + 1, by omega, by go_num, fun t ht => by
            by_cases e : t = j
            · rw [e]; exact g
            · exact HQ.out t (by omega), trivial⟩
        case measure => simp [intOf]; omega
      · have g1 : decide (70 < (L j : Int)) = true := by simp; omega
        go_wp2
        go_ret
        exact ⟨rfl, HB.out⟩
    · obtain rfl : j = n' := by omega
      clear hjn hj
      obtain ⟨k, ok, hC, hRC⟩ := count_both size symbol
      obtain ⟨ks, S, oks, k32, hS, hRS⟩ := split_both n symbol x
      obtain ⟨T, okj, hJ, hRJ⟩ := join_both j A L C Z size hn' HQ.out
      have HC : Hid (∀ w, Calls Try.prog 8 #[.int .i64 size, .int .i64 symbol] w fun e w' => e = .returned (.tuple #[.int .i64 k, .bool ok]) ∧ Below w.heap.size w w') := hC
      have HRC : Hid (∀ w, Calls Try.prog 9 #[.int .i64 size, .int .i64 symbol] w fun e w' => e = .returned (.tuple #[.int .i64 k, .bool ok]) ∧ w' = w) := hRC
      have HS : Hid (∀ a c w y, BytesAt w a n y → n ≤ c → (∀ i, i < n → y i = x i) → Calls Try.prog 10 #[.slice a n c, .int .i64 symbol] w fun e w' => ListAns w ks S oks e w') := hS
      have HRS : Hid (∀ a c w, BytesAt w a n x → Calls Try.prog 11 #[.slice a n c, .int .i64 symbol] w fun e w' => ListAns w ks S oks e w') := hRS
      have HJ : Hid (∀ a c w, ListsAt w a j A L C Z → Calls Try.prog 12 #[.slice a j c, .int .i64 size] w fun e w' => TextAns w T okj e w') := hJ
      have HRJ : Hid (∀ a c w, ListsAt w a j A L C Z → Calls Try.prog 13 #[.slice a j c, .int .i64 size] w fun e w' => TextAns w T okj e w') := hRJ
      clear hC hRC hS hRS hJ hRJ HQ
      go_wp2_with fail
      refine (lent_any a n c x _ HX0.out (by omega)).mono ?_
      rintro e w1 ⟨rfl, B1, b1, -⟩
      have HN1 : Hid (BytesAt w1 (some ⟨w0.heap.size, 0, none⟩) (n + 5) (lentOf x n)) := B1
      have HX1 : Hid (BytesAt w1 a n x) := HX0.out.grew b1
      have HL1 : Hid (ListsAt w1 a' j A L C Z) := HL0.out.grew b1
      have HB1 : Hid (Below w.heap.size w w1) := HB.out.trans (b1.mono HB.out.size)
      clear B1 b1 HX0 HL0 HB
      go_wp2_with fail
      refine (HC.out _).mono ?_
      rintro e w2 ⟨rfl, b2⟩
      go_wp2_with fail
      refine (HRC.out _).mono ?_
      rintro e w2' ⟨rfl, hw⟩
      have hw := hw.symm
      subst hw
      have HN2 : Hid (BytesAt w2 (some ⟨w0.heap.size, 0, none⟩) (n + 5) (lentOf x n)) := HN1.out.grew b2
      have HX2 : Hid (BytesAt w2 a n x) := HX1.out.grew b2
      have HL2 : Hid (ListsAt w2 a' j A L C Z) := HL1.out.grew b2
      have HB2 : Hid (Below w.heap.size w w2) := HB1.out.trans (b2.mono HB1.out.size)
      clear b2 HN1 HX1 HL1 HB1 HC HRC
      go_wp2_with fail
      refine (HS.out _ _ _ _ (HN2.out.take (m := n) (by omega)) (by omega) (fun i hi => if_pos hi)).mono ?_
      rintro e w3 ⟨a3, c3, rfl, T3, b3⟩
      have HT3 : Hid (TextsAt w3 a3 ks S) := T3
      have HN3 : Hid (BytesAt w3 (some ⟨w0.heap.size, 0, none⟩) (n + 5) (lentOf x n)) := HN2.out.grew b3
      have HX3 : Hid (BytesAt w3 a n x) := HX2.out.grew b3
      have HL3 : Hid (ListsAt w3 a' j A L C Z) := HL2.out.grew b3
      have HB3 : Hid (Below w.heap.size w w3) := HB2.out.trans (b3.mono HB2.out.size)
      clear T3 b3 HN2 HX2 HL2 HB2 HS
      go_wp2_with fail
      refine (HRS.out _ _ _ HX3.out).mono ?_
      rintro e w4 ⟨a4, c4, rfl, T4, b4⟩
      have HU4 : Hid (TextsAt w4 a4 ks S) := T4
      have HT4 : Hid (TextsAt w4 a3 ks S) := HT3.out.grew b4
      have HN4 : Hid (BytesAt w4 (some ⟨w0.heap.size, 0, none⟩) (n + 5) (lentOf x n)) := HN3.out.grew b4
      have HX4 : Hid (BytesAt w4 a n x) := HX3.out.grew b4
      have HL4 : Hid (ListsAt w4 a' j A L C Z) := HL3.out.grew b4
      have HB4 : Hid (Below w.heap.size w w4) := HB3.out.trans (b4.mono HB3.out.size)
      clear T4 b4 HT3 HN3 HX3 HL3 HB3 HRS
      go_wp2_with fail
      refine (HJ.out _ _ _ HL4.out).mono ?_
      rintro e w5 ⟨a5, n5, c5, x5, rfl, B5, s5, b5⟩
      have HY5 : Hid (BytesAt w5 a5 n5 x5 ∧ strOf n5 x5 = T) := ⟨B5, s5⟩
      have HU5 : Hid (TextsAt w5 a4 ks S) := HU4.out.grew b5
      have HT5 : Hid (TextsAt w5 a3 ks S) := HT4.out.grew b5
      have HN5 : Hid (BytesAt w5 (some ⟨w0.heap.size, 0, none⟩) (n + 5) (lentOf x n)) := HN4.out.grew b5
      have HX5 : Hid (BytesAt w5 a n x) := HX4.out.grew b5
      have HL5 : Hid (ListsAt w5 a' j A L C Z) := HL4.out.grew b5
      have HB5 : Hid (Below w.heap.size w w5) := HB4.out.trans (b5.mono HB4.out.size)
      clear B5 s5 b5 HU4 HT4 HN4 HX4 HL4 HB4 HJ
      go_wp2_with fail
      refine (HRJ.out _ _ _ HL5.out).mono ?_
      rintro e w6 ⟨a6, n6, c6, x6, rfl, B6, s6, b6⟩
      have HV6 : Hid (BytesAt w6 a6 n6 x6 ∧ strOf n6 x6 = T) := ⟨B6, s6⟩
      have HY6 : Hid (BytesAt w6 a5 n5 x5 ∧ strOf n5 x5 = T) := ⟨HY5.out.1.grew b6, HY5.out.2⟩
      have HU6 : Hid (TextsAt w6 a4 ks S) := HU5.out.grew b6
      have HT6 : Hid (TextsAt w6 a3 ks S) := HT5.out.grew b6
      have HN6 : Hid (BytesAt w6 (some ⟨w0.heap.size, 0, none⟩) (n + 5) (lentOf x n)) := HN5.out.grew b6
      have HX6 : Hid (BytesAt w6 a n x) := HX5.out.grew b6
      have HB6 : Hid (Below w.heap.size w w6) := HB5.out.trans (b6.mono HB5.out.size)
      clear B6 s6 b6 HY5 HU5 HT5 HN5 HX5 HL5 HB5 HRJ
      go_wp2_with fail
      refine (same4_any a3 a4 ks c3 c4 S _ HT6.out HU6.out (by omega)).mono ?_
      rintro e w7 ⟨rfl, q7⟩
      have e1 : (convert 22 9 (.slice a5 n5 c5)).run Try.prog w7 = .ok (.string T) w7 := by rw [← HY6.out.2]; exact conv_bytes _ _ _ _ _ (q7.bytes HY6.out.1)
      have e2 : (convert 22 9 (.slice a6 n6 c6)).run Try.prog w7 = .ok (.string T) w7 := by rw [← HV6.out.2]; exact conv_bytes _ _ _ _ _ (q7.bytes HV6.out.1)
      have HN7 : Hid (BytesAt w7 (some ⟨w0.heap.size, 0, none⟩) (n + 5) (lentOf x n)) := q7.bytes HN6.out
      have HX7 : Hid (BytesAt w7 a n x) := q7.bytes HX6.out
      have HB7 : Hid (Below w.heap.size w w7) := HB6.out.trans (q7.below _)
      clear q7 HT6 HU6 HY6 HV6 HN6 HX6 HB6
      go_wp2_with fail
      refine (whole_any a w0.heap.size n c x _ HN7.out HX7.out (by omega)).mono ?_
      rintro e w8 ⟨rfl, hw⟩
      have hw := hw.symm
      subst hw
      clear e1 e2
      go_wp2
      go_ret
      exact ⟨rfl, HB7.out⟩

theorem walk (a0 : Option Addr) (len0 cap0 : Nat) (x0 : Nat → Nat) (a1 a2 : Int) (a3 : Option Addr) (len3 cap3 : Nat) (A3 : Nat → Option Addr) (L3 C3 : Nat → Nat) (Z3 : Nat → Nat → Nat) (w : World) (w0 : BytesAt w a0 len0 x0 ∧ len0 ≤ cap0 ∧ cap0 ≤ maxLen) (_w1 : (Lit.int .i64 a1).wf = true) (_w2 : (Lit.int .i64 a2).wf = true) (w3 : ListsAt w a3 len3 A3 L3 C3 Z3 ∧ len3 ≤ cap3 ∧ cap3 ≤ maxLen) :
    Calls Try.prog 3 #[.slice a0 len0 cap0, .int .i64 a1, .int .i64 a2, .slice a3 len3 cap3] w fun e w' => e = .returned (.bool true) ∧ Below w.heap.size w w' := by
  by_cases h : 300 < len0 ∨ 40 < len3
  · exact long a0 len0 cap0 a1 a2 a3 len3 cap3 w h
  · exact core a0 len0 cap0 x0 a1 a2 a3 len3 cap3 A3 L3 C3 Z3 w w0.1 w3.1 (by omega) (by omega)

set_option maxRecDepth 100000 in
theorem lifted (os : Os) (started : os.Started) (H : Type) (enc : TypeId × Value → H) :
    ReturnsInHanded {} Try.checked os 3 .any (Rows.cutAllSpec.pre6 enc Try.prog Try.f3 Rows.cutAllRow.domain false) (Rows.cutAllSpec.post enc Try.prog Try.f3 false true false false) := by
  refine returnsInHanded_of_change (C := Try.checked) own started (by kernel_rfl) Try.func3
    (ChangeSpec.witness6 (enc := enc) (C := Try.checked) false ⟨#[], #[.slice none 0 0, .int .i64 0, .int .i64 0, .slice none 0 0], []⟩ 8 (by kernel_rfl) (by kernel_rfl) (by kernel_rfl) (by kernel_rfl)) ?_
  intro W base args ds gs before hval0 hW hcnd _
  have hval : ∀ (j : Nat) t v, Try.f3.params[j]? = some t → args[j]? = some v → Value.okWide Try.prog W .any base t v := hval0
  have hW' := hW
  obtain ⟨p, q, hA0, hV, rfl, hfz, hnd⟩ := hW
  have hA : DataW.TrodAll enc Try.prog W 0 (fun _ => true) true Try.f3.params.toList args.toList ds p := hA0
  rw [Try.params3] at hA hval
  obtain ⟨v0, vs0, d0, ds0, p0, q0, hargs, rfl, rfl, h0, r0⟩ := trodAll_cons hA
  obtain ⟨v1, vs1, d1, ds1, p1, q1, rfl, rfl, rfl, h1, r1⟩ := trodAll_cons r0
  obtain ⟨v2, vs2, d2, ds2, p2, q2, rfl, rfl, rfl, h2, r2⟩ := trodAll_cons r1
  obtain ⟨v3, vs3, d3, ds3, p3, q3, rfl, rfl, rfl, h3, r3⟩ := trodAll_cons r2
  obtain ⟨rfl, rfl, rfl⟩ := trodAll_nil r3
  obtain rfl : args = #[v0, v1, v2, v3] := by cases args; simp_all
  obtain ⟨rfl, rfl⟩ := trodVars_none hV
  obtain ⟨a0, len0, cap0, rfl⟩ := okWide_slice Try.underlying22 (hval 0 22 v0 rfl rfl)
  have k0 := h0
  have lt0 : ∀ x ∈ p0, x.block < W.heap.size := by obtain ⟨m, hm⟩ := k0; exact DataW.trod_lt m _ _ _ hm
  obtain ⟨x0, w0⟩ : ∃ x, BytesAt W a0 len0 x ∧ len0 ≤ cap0 ∧ cap0 ≤ maxLen := open_bytes Try.underlying22 Try.underlying5 (by kernel_rfl) h0
  obtain ⟨a1, rfl, rfl, rfl, w1⟩ := open_int Try.underlying3 (hval 1 3 v1 rfl rfl) h1
  obtain ⟨a2, rfl, rfl, rfl, w2⟩ := open_int Try.underlying3 (hval 2 3 v2 rfl rfl) h2
  obtain ⟨a3, len3, cap3, rfl⟩ := okWide_slice Try.underlying23 (hval 3 23 v3 rfl rfl)
  have k3 := h3
  have lt3 : ∀ x ∈ p3, x.block < W.heap.size := by obtain ⟨m, hm⟩ := k3; exact DataW.trod_lt m _ _ _ hm
  obtain ⟨A3, L3, C3, Z3, w3⟩ := open_lists Try.underlying23 Try.underlying22 Try.underlying5 (by kernel_rfl) (by kernel_rfl) h3
  clear hA0 hval0
  refine (walk a0 len0 cap0 x0 a1 a2 a3 len3 cap3 A3 L3 C3 Z3 W w0 w1 w2 w3).mono fun e W' ⟨he, bel⟩ => ?_
  subst he
  exact ⟨_, rfl, _, _, _, [], _, [], hW', trodAll_mk1 (shut_bool Try.underlying4 _), (trodAll_cons_mk (Below.trod laidOut (by kernel_rfl) (of_decide_eq_true (by kernel_rfl)) k0 bel lt0) (trodAll_cons_mk (shut_int Try.underlying3 w1) (trodAll_cons_mk (shut_int Try.underlying3 w2) (trodAll_cons_mk (Below.trod laidOut (by kernel_rfl) (of_decide_eq_true (by kernel_rfl)) k3 bel lt3) trodAll_mk0)))), rfl, bel.frame _, fun h => by cases h⟩

theorem over : Rows.cutAllRow.holds Try.pinned (OpenSpec.ofChange Rows.cutAllSpec) :=
  OpenClaim.holds_of_wide 3 Try.f3 rfl rfl rfl rfl rfl rfl rfl ⟨rfl, rfl, rfl, rfl, rfl⟩ rfl rfl rfl rfl rfl (by kernel_rfl) Try.func3 (by kernel_rfl)
    (of_decide_eq_true (by kernel_rfl)) (by unfold Func.isWrapper; first | (rw [if_pos (by decide +kernel)]; kernel_rfl) | (rw [if_neg (by decide +kernel)]; exact ⟨rfl, rfl⟩))
    (fun os started H enc _ => lifted os started H enc)

theorem proved : Rows.CutAllSaid := over
end Go.Proofs.Ythllmmakhpmceaa.cutAll
namespace Go.Proofs.Ythllmmakhpmceaa
theorem cutAll_holds : Rows.CutAllSaid := cutAll.proved
#print axioms cutAll_holds
end Go.Proofs.Ythllmmakhpmceaa

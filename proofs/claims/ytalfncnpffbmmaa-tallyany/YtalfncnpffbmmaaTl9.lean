/-
  That package tally has begun: the statements' own look at it answers true.
-/
import Derived.Test.YtalfncnpffbmmaaTl8
namespace Go.Proofs.Ytalfncnpffbmmaa
open Go.RowKit Go.Deep

/-- What is sorted is one row. -/
theorem sort_same {n : Nat} {d E R : Array Int} (hd : d.size = n) (hE : SortTo 0 n d E) (hR : SortTo 0 n d R) : R = E := by
  subst hd
  have total : ∀ x y, Sort.ltInt x y = false → Sort.ltInt y x = false → x = y := by
    intro x y h1 h2
    have h1 := of_decide_eq_false h1
    have h2 := of_decide_eq_false h2
    omega
  have a := Sort.sorted_unique_holds Sort.swo_ltInt total d E hE.1 hE.2
  have b := Sort.sorted_unique_holds Sort.swo_ltInt total d R hR.1 hR.2
  exact Array.toList_inj.1 (b.trans a.symm)
theorem sort_self {n : Nat} {d : Array Int} (h : ∀ i j, i < j → j < n → d[i]! ≤ d[j]!) : SortTo 0 n d d :=
  ⟨Sort.permIn_refl _ _ _, fun i j _ hij hj => decide_eq_false (by have := h i j hij hj; omega)⟩
theorem KeptF.below {F : Nat → Prop} {w a b : World} {B : Nat} (h : KeptF F a b) (k : Below B w a) (hF : ∀ R, F R → B ≤ R) (hB : B ≤ w.heap.size) : Below B w b :=
  ⟨h.os.trans k.os, h.tape.trans k.tape, h.output.trans k.output, Nat.le_trans k.size h.size, fun i hi => (h.block i (by have := k.size; omega) (fun hf => by have := hF i hf; omega)).trans (k.block i hi)⟩
def y16 (i : Nat) : Nat := if i = 0 then 65537 else 65539
set_option maxRecDepth 100000 in
set_option maxHeartbeats 1000000 in
theorem begun16 (w : World) : Calls Try.prog 4 #[] w fun e w' => e = .returned (.bool true) ∧ Below w.heap.size w w' := by
  go_enter Try.func4, Try.ntmps4
  go_wp2_with fail
  refine (tnew_any w).mono ?_
  rintro e w1 ⟨g, ex, cm, rfl, N1, b1, z1, z2, z3⟩
  have HB1 : Hid (Below w.heap.size w w1) := b1
  have HZ : Hid (w.heap.size ≤ g ∧ w.heap.size ≤ ex ∧ w.heap.size ≤ cm) := ⟨z1, z2, z3⟩
  have HN1 : Hid (TlNew w1 g ex cm) := N1
  clear b1 z1 z2 z3 N1
  go_wp2_with fail
  refine (tgot_first g ex cm 1 w1 (by decide) HN1.out).mono ?_
  rintro e w2 ⟨rfl, im, fb, m, z4, z5, T2, K2⟩
  have HT2 : Hid (TlAt w2 g ex cm im fb m 1 ⟨65537, 65536, 1, 65536, 0, 0, 0, #[65537], fun y => if y = 65537 then true else false⟩) := T2
  have HB2 : Hid (Below w.heap.size w w2) := K2.below HB1.out (fun R h => by have := HZ.out; rcases h with h | h | h <;> omega) (Nat.le_refl _)
  have HZ2 : Hid (∀ R, Blk g ex cm im fb R → w.heap.size ≤ R) := fun R h => by
    have := HZ.out
    have := HB1.out.size
    rcases h with h | h | h | h | h <;> omega
  clear T2 K2 z4 z5 HN1 HB1 HZ
  go_wp2_with fail
  refine (tgot_twice g ex cm im fb m 1 1 _ w2 (by decide) (by decide) (by decide) (by decide) (by decide) HT2.out).mono ?_
  rintro e w3 ⟨rfl, T3, K3⟩
  have HT3 : Hid (TlAt w3 g ex cm im fb m 1 ⟨65537, 65536, 1, 65536, 0, 0, 1, #[65537], fun y => if y = 65537 then true else false⟩) := T3
  have HB3 : Hid (Below w.heap.size w w3) := K3.below HB2.out HZ2.out (Nat.le_refl _)
  clear T3 K3 HT2 HB2
  go_wp2_with fail
  refine (tgot_new g ex cm im fb m 1 3 _ w3 (by decide) (by decide) (by decide) (by decide) (by decide) (by decide) (by decide) (by decide) HT3.out).mono ?_
  rintro e w4 ⟨rfl, fb', m', z5, T4, K4⟩
  have HT4 : Hid (TlAt w4 g ex cm im fb' m' 2 ⟨65539, 65536, 2, 65536, 0, 0, 1, #[65537, 65539], fun y => if y = 65539 then true else if y = 65537 then true else false⟩) := T4
  have HB4 : Hid (Below w.heap.size w w4) := K4.below HB3.out HZ2.out (Nat.le_refl _)
  have HZ4 : Hid (∀ R, Blk g ex cm im fb' R → w.heap.size ≤ R) := fun R h => by
    have := HB3.out.size
    have q := HZ2.out
    rcases h with h | h | h | h | h
    · exact q R (Or.inl h)
    · exact q R (Or.inr (Or.inl h))
    · exact q R (Or.inr (Or.inr (Or.inl h)))
    · exact q R (Or.inr (Or.inr (Or.inr (Or.inl h))))
    · rcases z5 with z | z
      · exact q R (Or.inr (Or.inr (Or.inr (Or.inr (h.trans z)))))
      · omega
  clear T4 K4 z5 HT3 HB3 HZ2
  go_wp2_with fail
  refine (treport_any g ex cm im fb' m' 2 2 _ y16 w4 rfl (by decide) (fun R hR => ?_) (fun i hi => ?_) (fun i hi => ?_) (by decide) (by decide) (by decide) (by decide) (by decide) HT4.out).mono ?_
  · rw [sort_same rfl (sort_self (n := 2) (d := #[65537, 65539]) (fun i j h1 h2 => ?_)) hR]
    · intro i hi
      have : i = 0 ∨ i = 1 := by omega
      rcases this with rfl | rfl <;> rfl
    · have : i = 0 ∧ j = 1 := by omega
      obtain ⟨rfl, rfl⟩ := this
      decide
  · have : i = 0 ∨ i = 1 := by omega
    rcases this with rfl | rfl <;> decide
  · have : i = 0 ∨ i = 1 := by omega
    rcases this with rfl | rfl <;> decide
  rintro e w5 ⟨rfl, T5, K5⟩
  have HT5 : Hid (TlAt w5 g ex cm im fb' m' 2 ⟨65539, 65539, 0, 65539, 0, 0, 1, #[], fun y => if y = 65539 then true else if y = 65537 then true else false⟩) := T5
  have HB5 : Hid (Below w.heap.size w w5) := K5.below HB4.out HZ4.out (Nat.le_refl _)
  have ev : rpV (65539) (65539 - 65536 - 2) 2 (min (bst y16 65536 0 2) 65535) = .agg #[.int .u64 65539, .int .u32 1, .int .u32 2, .int .u16 1, .int .u16 0] := rfl
  rw [ev]
  clear ev T5 K5 HT4 HB4
  have b6 : Below w5.heap.size w5 (w5.alloc (.cells #[.int .u64 65539, .int .u32 1, .int .u32 2, .int .u16 1, .int .u16 0] 32)) := (Below.refl _ _).alloc (Nat.le_refl _) _
  have HR6 : Hid (RpAt (w5.alloc (.cells #[.int .u64 65539, .int .u32 1, .int .u32 2, .int .u16 1, .int .u16 0] 32)) w5.heap.size 65539 1 2 1 0) := RpAt.made w5 _ 65539 1 2 1 0
  have HT6 : Hid (TlAt (w5.alloc (.cells #[.int .u64 65539, .int .u32 1, .int .u32 2, .int .u16 1, .int .u16 0] 32)) g ex cm im fb' m' 2 ⟨65539, 65539, 0, 65539, 0, 0, 1, #[], fun y => if y = 65539 then true else if y = 65537 then true else false⟩) := HT5.out.block (KeptF.of_below b6)
  have HB6 : Hid (Below w.heap.size w (w5.alloc (.cells #[.int .u64 65539, .int .u32 1, .int .u32 2, .int .u16 1, .int .u16 0] 32))) := HB5.out.trans (b6.mono HB5.out.size)
  have HPN : Hid (∀ R, Blk g ex cm im fb' R → R < w5.heap.size) := fun R h => by
    have t := HT5.out
    rcases h with h | h | h | h | h
    · rw [h]; exact t.G.lt
    · rw [h]; exact t.ext.lt
    · rw [h]; exact t.hal.lt
    · rw [h]; exact t.set.lt
    · rw [h]; exact t.row.lt
  clear b6 HT5 HB5
  go_wp2_with fail
  generalize (w5.alloc (.cells #[.int .u64 65539, .int .u32 1, .int .u32 2, .int .u16 1, .int .u16 0] 32)) = w6 at *
  generalize w5.heap.size = P at *
  refine (treport_any g ex cm im fb' m' 2 0 _ y16 w6 rfl (by decide) (fun R hR i hi => absurd hi (by omega)) (fun i hi => absurd hi (by omega)) (fun i hi => absurd hi (by omega)) (by decide) (by decide) (by decide) (by decide) (by decide) HT6.out).mono ?_
  rintro e w7 ⟨rfl, T7, K7⟩
  have HT7 : Hid (TlAt w7 g ex cm im fb' m' 2 ⟨65539, 65539, 0, 65539, 0, 0, 1, #[], fun y => if y = 65539 then true else if y = 65537 then true else false⟩) := T7
  have HB7 : Hid (Below w.heap.size w w7) := K7.below HB6.out HZ4.out (Nat.le_refl _)
  have HR7 : Hid (RpAt w7 P 65539 1 2 1 0) := HR6.out.block (K7.block P HR6.out.lt (fun h => by have := HPN.out P h; omega))
  have ev : rpV (65539) (65539 - 65539 - 0) 0 (min (bst y16 65539 0 0) 65535) = .agg #[.int .u64 65539, .int .u32 0, .int .u32 0, .int .u16 0, .int .u16 0] := rfl
  rw [ev]
  clear ev T7 K7 HT6 HB6 HR6 HPN HZ4
  have b8 : Below w7.heap.size w7 (w7.alloc (.cells #[.int .u64 65539, .int .u32 0, .int .u32 0, .int .u16 0, .int .u16 0] 32)) := (Below.refl _ _).alloc (Nat.le_refl _) _
  have HR8 : Hid (RpAt (w7.alloc (.cells #[.int .u64 65539, .int .u32 0, .int .u32 0, .int .u16 0, .int .u16 0] 32)) w7.heap.size 65539 0 0 0 0) := RpAt.made w7 _ 65539 0 0 0 0
  have HQ8 : Hid (RpAt (w7.alloc (.cells #[.int .u64 65539, .int .u32 0, .int .u32 0, .int .u16 0, .int .u16 0] 32)) P 65539 1 2 1 0) := HR7.out.block (b8.block P HR7.out.lt)
  have HT8 : Hid (TlAt (w7.alloc (.cells #[.int .u64 65539, .int .u32 0, .int .u32 0, .int .u16 0, .int .u16 0] 32)) g ex cm im fb' m' 2 ⟨65539, 65539, 0, 65539, 0, 0, 1, #[], fun y => if y = 65539 then true else if y = 65537 then true else false⟩) := HT7.out.block (KeptF.of_below b8)
  have HB8 : Hid (Below w.heap.size w (w7.alloc (.cells #[.int .u64 65539, .int .u32 0, .int .u32 0, .int .u16 0, .int .u16 0] 32))) := HB7.out.trans (b8.mono HB7.out.size)
  clear b8 HT7 HB7 HR7
  have c0 := HQ8.out.c0
  have c1 := HQ8.out.c1
  have c2 := HQ8.out.c2
  have c3 := HQ8.out.c3
  have r2 := HR8.out.c2
  go_wp2_with (first | (go_at_call 9; refine (ttwice_any g ex cm im fb' m' 2 _ _ HT8.out).mono ?_; rintro e w9 ⟨rfl, rfl⟩) | (go_at_call 8; refine (tlate_any g ex cm im fb' m' 2 _ _ HT8.out).mono ?_; rintro e w9 ⟨rfl, rfl⟩))
  go_ret
  exact ⟨rfl, HB8.out⟩
end Go.Proofs.Ytalfncnpffbmmaa

/-
  The document's data as bytes: PutData, TakeData; two data, the same.
-/
import Derived.Test.YtcflaklnafggmaaDat
import Derived.OrdersHeld
import Derived.Deep.RegionHeld
namespace Go.Proofs.Ytcflaklnafggmaa
open Go.RowKit Go.Deep

set_option maxRecDepth 100000 in
set_option maxHeartbeats 400000 in
theorem rput_no (s t f y : Int) (a : Option Addr) (n c : Nat) (w : World) (h : ¬ (1 ≤ n ∧ n ≤ 64)) (z : Nat → Nat) :
    Calls Try.prog 21 #[.agg #[.int .u16 s, .int .u16 t, .int .u32 f, .int .u16 y, .slice a n c]] w fun e w' => PutIs w 0 z 4 e w' := by
  have HB : Hid (Below w.heap.size w (w.alloc (.cells #[.int .u16 s, .int .u16 t, .int .u32 f, .int .u16 y, .slice a n c] 26))) := (Below.refl _ _).alloc (Nat.le_refl _) _
  by_cases h0 : n = 0
  · subst h0
    go_enter Try.func21, Try.ntmps21
    go_wp2
    go_ret2
    exact PutIs.no HB.out
  · have i1 : ((n : Int) == 0) = false := by simp; omega
    have i2 : (64 : Int) < (n : Int) := by omega
    clear h h0
    go_enter Try.func21, Try.ntmps21
    go_wp2
    go_ret2
    exact PutIs.no HB.out
-- by hdr.py
set_option maxRecDepth 100000 in
set_option maxHeartbeats 1000000 in
theorem rput_yes (s t f y : Nat) (a : Option Addr) (n c : Nat) (x : Nat → Nat) (w : World) (hx : BytesAt w a n x) (n1 : 1 ≤ n) (n2 : n ≤ 64) (ls : s < 65536) (lt : t < 65536) (lf : f < 4294967296) (ly : y < 65536) :
    Calls Try.prog 21 #[.agg #[.int .u16 (s : Int), .int .u16 (t : Int), .int .u32 (f : Int), .int .u16 (y : Int), .slice a n c]] w fun e w' => PutIs w (10 + n) (laid s t f y x) 0 e w' := by
  have D1 := DatAt.made w 26 s t f y a n c
  have b1 : Hid (Below w.heap.size w (w.alloc (.cells #[.int .u16 (s : Int), .int .u16 (t : Int), .int .u32 (f : Int), .int .u16 (y : Int), .slice a n c] 26))) := (Below.refl _ _).alloc (Nat.le_refl _) _
  have HX : Hid (BytesAt w a n x) := hx
  have i1 : ((n : Int) == 0) = false := by simp; omega
  have i2 : decide ((64 : Int) < (n : Int)) = false := by simp; omega
  clear hx
  go_enter Try.func21, Try.ntmps21
  go_wp2_with fail
  generalize (w.alloc (.cells #[.int .u16 (s : Int), .int .u16 (t : Int), .int .u32 (f : Int), .int .u16 (y : Int), .slice a n c] 26)) = w1 at *
  refine wp_region_held (S := fun w' => DatAt w' w.heap.size s t f y a n c) (by kernel_rfl) ?_
  change wpAnyH _ _ _ _ _ _ _ _ w1.drew
  have hr : DatAt w1.drew w.heap.size s t f y a n c := D1.grew (Below.refl _ _).drew
  have b2 : Below w1.heap.size w1 w1.drew := (Below.refl _ _).drew
  have HD : Hid (DatAt w1 w.heap.size s t f y a n c) := D1
  clear D1
  generalize w1.drew = w2 at *
  refine wpAnyH_take (i := 0) (v := .pointer (some ⟨w.heap.size, 0, none⟩)) rfl (by kernel_rfl) (by kernel_rfl) (by kernel_rfl) (fun _ _ _ h => h) (Yields.yieldsIf (Or.inl ⟨by kernel_rfl, fun _ => by go_simp⟩)) hr ?_
  refine wpAnyH_take (i := 1) (v := .int .u16 (s : Int)) rfl (by kernel_rfl) (by kernel_rfl) (by kernel_rfl) (fun _ _ _ h => h) (Or.inl ⟨by kernel_rfl, fun W hW => by have g := hW.c0; go_simp⟩) hr ?_
  refine wpAnyH_take (i := 2) (v := .int .u64 (s : Int)) rfl (by kernel_rfl) (by kernel_rfl) (by kernel_rfl) (fun _ _ _ h => h) (Yields.yieldsIf (Or.inl ⟨by kernel_rfl, fun _ => by go_simp; rw [IntKind.wrap_u64]; omega⟩)) hr ?_
  refine wpAnyH_take (i := 4) (v := .pointer (some ⟨w.heap.size, 1, none⟩)) rfl (by kernel_rfl) (by kernel_rfl) (by kernel_rfl) (fun _ _ _ h => h) (Yields.yieldsIf (Or.inl ⟨by kernel_rfl, fun _ => by go_simp⟩)) hr ?_
  refine wpAnyH_take (i := 5) (v := .int .u16 (t : Int)) rfl (by kernel_rfl) (by kernel_rfl) (by kernel_rfl) (fun _ _ _ h => h) (Or.inl ⟨by kernel_rfl, fun W hW => by have g := hW.c1; go_simp⟩) hr ?_
  refine wpAnyH_take (i := 6) (v := .int .u64 (t : Int)) rfl (by kernel_rfl) (by kernel_rfl) (by kernel_rfl) (fun _ _ _ h => h) (Yields.yieldsIf (Or.inl ⟨by kernel_rfl, fun _ => by go_simp; rw [IntKind.wrap_u64]; omega⟩)) hr ?_
  refine wpAnyH_ready (rs := [3]) (by kernel_rfl) (by simp) ?_
  refine AllReadyH.cons rfl (fun K2 hK2 => ?_) AllReadyH.nil
  go_simp
  refine Calls.mono (high_any s 2 w2 (by omega) (by decide)) ?_
  rintro e w3 ⟨rfl, R3, d3⟩
  have hr := hr.grew d3
  refine hK2.out _ _ hr (fun hr => ?_)
  clear hK2 K2
  have b3 : Below w1.heap.size w1 w3 := b2.trans (d3.mono b2.size)
  refine wpAnyH_ready (rs := [7]) (by kernel_rfl) (by simp) ?_
  refine AllReadyH.cons rfl (fun K2 hK2 => ?_) AllReadyH.nil
  go_simp
  refine Calls.mono (high_any t 2 w3 (by omega) (by decide)) ?_
  rintro e w4 ⟨rfl, R4, d4⟩
  have hr := hr.grew d4
  refine hK2.out _ _ hr (fun hr => ?_)
  clear hK2 K2
  have b4 : Below w1.heap.size w1 w4 := b3.trans (d4.mono b3.size)
  have O3 : Ror w3 w1.heap.size (.slice (some ⟨w2.heap.size, 0, none⟩) 2 2) 2 (cat (fun _ => 0) (high s 2) 0) := (ror_made R3 b2.size (by decide)).congr fun i hi => by unfold cat; rw [if_neg (by omega)]; rfl
  have B4 : BytesAt w4 (some ⟨w3.heap.size, 0, none⟩) 2 (high t 2) := row_bytes' R4 (fun _ _ => rfl) (fun i _ => high_lt _ _ _)
  obtain ⟨v5, w5, happ, O5, g5⟩ := (O3.grown d4).push (c := 2) (z := (cat (cat (fun _ => 0) (high s 2) 0) (high t 2) 2)) 24 B4 (by decide) b4.size (fun i hi => (cat_left hi).symm) (fun i hi => by rw [cat, if_neg (by omega), Nat.add_sub_cancel_left])
  have b5 := grown_below (O3.grown d4) g5 b4 b4.size
  refine wpAnyH_ready (rs := [8]) (by kernel_rfl) (by simp) ?_
  refine AllReadyH.cons rfl (fun K2 hK2 => ?_) AllReadyH.nil
  refine step_append_run rfl (.tmp 18) (.tmp 22) 24 rfl _ _ rfl rfl _ _ happ ?_
  have hr := HD.out.grew b5
  refine hK2.out _ _ hr (fun hr => ?_)
  clear hK2 K2 happ O3 B4 R3 R4 d3 d4 b2 b3 b4 g5
  refine wpAnyH_take (i := 9) (v := v5) rfl (by kernel_rfl) (by kernel_rfl) (by kernel_rfl) (fun _ _ _ h => h) (Yields.yieldsIf (Or.inl ⟨by kernel_rfl, fun _ => by kernel_rfl⟩)) hr ?_
  refine wpAnyH_done (by kernel_rfl) ?_ _
  go_wp2_with fail
  refine wp_region_held (S := fun w' => DatAt w' w.heap.size s t f y a n c) (by kernel_rfl) ?_
  change wpAnyH _ _ _ _ _ _ _ _ w5.drew
  have hr : DatAt w5.drew w.heap.size s t f y a n c := hr.grew (Below.refl _ _).drew
  have O5 := O5.grown (Below.refl w5.heap.size w5).drew
  have b6 : Below w1.heap.size w1 w5.drew := b5.drew
  clear b5
  generalize w5.drew = w6 at *
  refine wpAnyH_take (i := 0) (v := v5) rfl (by kernel_rfl) (by kernel_rfl) (by kernel_rfl) (fun _ _ _ h => h) (Yields.yieldsIf (Or.inl ⟨by kernel_rfl, fun _ => by kernel_rfl⟩)) hr ?_
  refine wpAnyH_take (i := 1) (v := .pointer (some ⟨w.heap.size, 2, none⟩)) rfl (by kernel_rfl) (by kernel_rfl) (by kernel_rfl) (fun _ _ _ h => h) (Yields.yieldsIf (Or.inl ⟨by kernel_rfl, fun _ => by go_simp⟩)) hr ?_
  refine wpAnyH_take (i := 2) (v := .int .u32 (f : Int)) rfl (by kernel_rfl) (by kernel_rfl) (by kernel_rfl) (fun _ _ _ h => h) (Or.inl ⟨by kernel_rfl, fun W hW => by have g := hW.c2; go_simp⟩) hr ?_
  refine wpAnyH_take (i := 3) (v := .int .u64 (f : Int)) rfl (by kernel_rfl) (by kernel_rfl) (by kernel_rfl) (fun _ _ _ h => h) (Yields.yieldsIf (Or.inl ⟨by kernel_rfl, fun _ => by go_simp; rw [IntKind.wrap_u64]; omega⟩)) hr ?_
  refine wpAnyH_take (i := 6) (v := .pointer (some ⟨w.heap.size, 3, none⟩)) rfl (by kernel_rfl) (by kernel_rfl) (by kernel_rfl) (fun _ _ _ h => h) (Yields.yieldsIf (Or.inl ⟨by kernel_rfl, fun _ => by go_simp⟩)) hr ?_
  refine wpAnyH_take (i := 7) (v := .int .u16 (y : Int)) rfl (by kernel_rfl) (by kernel_rfl) (by kernel_rfl) (fun _ _ _ h => h) (Or.inl ⟨by kernel_rfl, fun W hW => by have g := hW.c3; go_simp⟩) hr ?_
  refine wpAnyH_take (i := 8) (v := .int .u64 (y : Int)) rfl (by kernel_rfl) (by kernel_rfl) (by kernel_rfl) (fun _ _ _ h => h) (Yields.yieldsIf (Or.inl ⟨by kernel_rfl, fun _ => by go_simp; rw [IntKind.wrap_u64]; omega⟩)) hr ?_
  refine wpAnyH_ready (rs := [4]) (by kernel_rfl) (by simp) ?_
  refine AllReadyH.cons rfl (fun K2 hK2 => ?_) AllReadyH.nil
  go_simp
  refine Calls.mono (high_any f 4 w6 (by omega) (by decide)) ?_
  rintro e w7 ⟨rfl, R7, d7⟩
  have hr := hr.grew d7
  refine hK2.out _ _ hr (fun hr => ?_)
  clear hK2 K2
  have b7 : Below w1.heap.size w1 w7 := b6.trans (d7.mono b6.size)
  have B7 : BytesAt w7 (some ⟨w6.heap.size, 0, none⟩) 4 (high f 4) := row_bytes' R7 (fun _ _ => rfl) (fun i _ => high_lt _ _ _)
  have O7 := O5.grown d7
  obtain ⟨v8, w8, happ, O8, g8⟩ := O7.push (c := 4) (z := (cat (cat (cat (fun _ => 0) (high s 2) 0) (high t 2) 2) (high f 4) 4)) 24 B7 (by decide) b7.size (fun i hi => (cat_left hi).symm) (fun i hi => by rw [cat, if_neg (by omega), Nat.add_sub_cancel_left])
  have b8 := grown_below O7 g8 b7 b7.size
  refine wpAnyH_ready (rs := [5]) (by kernel_rfl) (by simp) ?_
  refine AllReadyH.cons rfl (fun K2 hK2 => ?_) AllReadyH.nil
  refine step_append_run rfl (.tmp 24) (.tmp 28) 24 rfl _ _ rfl rfl _ _ happ ?_
  have hr := HD.out.grew b8
  refine hK2.out _ _ hr (fun hr => ?_)
  clear hK2 K2 happ O5 O7 B7 R7 d7 b6 b7 g8
  refine wpAnyH_ready (rs := [9]) (by kernel_rfl) (by simp) ?_
  refine AllReadyH.cons rfl (fun K2 hK2 => ?_) AllReadyH.nil
  go_simp
  refine Calls.mono (high_any y 2 w8 (by omega) (by decide)) ?_
  rintro e w9 ⟨rfl, R9, d9⟩
  have hr := hr.grew d9
  refine hK2.out _ _ hr (fun hr => ?_)
  clear hK2 K2
  have b9 : Below w1.heap.size w1 w9 := b8.trans (d9.mono b8.size)
  have B9 : BytesAt w9 (some ⟨w8.heap.size, 0, none⟩) 2 (high y 2) := row_bytes' R9 (fun _ _ => rfl) (fun i _ => high_lt _ _ _)
  have O9 := O8.grown d9
  obtain ⟨v10, w10, happ, O10, g10⟩ := O9.push (c := 2) (z := (cat (cat (cat (cat (fun _ => 0) (high s 2) 0) (high t 2) 2) (high f 4) 4) (high y 2) 8)) 24 B9 (by decide) b9.size (fun i hi => (cat_left hi).symm) (fun i hi => by rw [cat, if_neg (by omega), Nat.add_sub_cancel_left])
  have b10 := grown_below O9 g10 b9 b9.size
  refine wpAnyH_ready (rs := [10]) (by kernel_rfl) (by simp) ?_
  refine AllReadyH.cons rfl (fun K2 hK2 => ?_) AllReadyH.nil
  refine step_append_run rfl (.tmp 29) (.tmp 33) 24 rfl _ _ rfl rfl _ _ happ ?_
  have hr := HD.out.grew b10
  refine hK2.out _ _ hr (fun hr => ?_)
  clear hK2 K2 happ O8 O9 B9 R9 d9 b8 b9 g10
  refine wpAnyH_take (i := 11) (v := v10) rfl (by kernel_rfl) (by kernel_rfl) (by kernel_rfl) (fun _ _ _ h => h) (Yields.yieldsIf (Or.inl ⟨by kernel_rfl, fun _ => by kernel_rfl⟩)) hr ?_
  refine wpAnyH_done (by kernel_rfl) ?_ _
  have q := hr.c4
  obtain ⟨v11, w11, happ, O11, g11⟩ := O10.push (c := c) (z := laid s t f y x) 24 ((HX.out.below b1.out (Nat.le_refl _)).below b10 (Nat.le_refl _)) (by omega) b10.size (fun i hi => (cat_left hi).symm) (fun i hi => (laid_body s t f y x i).symm)
  have b11 := grown_below O10 g11 b10 b10.size
  obtain ⟨r, cap, rfl, h1, -, h3, h4⟩ := ror_any O11 (fun i hi => laid_lt HX.out.lt i hi)
  have HA : Hid (PutIs w (10 + n) (laid s t f y x) 0 (.returned (.tuple #[.slice r (10 + n) cap, .int .i64 0])) w11) :=
    ⟨r, cap, rfl, h1, fun h => (h3 h).imp fun g e => ⟨e.1, Nat.le_trans b1.out.size e.2⟩, h4, b1.out.trans (b11.mono b1.out.size)⟩
  clear O10 O11 g11 b10 b11 h1 h3 h4 HX HD b1 hr
  go_wp2_with (at_builtin; refine Go.Lib.wpList_append_run _ rfl (.tmp 35) (.tmp 37) 24 24 rfl _ _ rfl rfl _ _ happ ?_)
  go_ret2
  exact HA.out

theorem rput_any (s t f y : Nat) (a : Option Addr) (n c : Nat) (x : Nat → Nat) (w : World) (hx : BytesAt w a n x) (ls : s < 65536) (lt : t < 65536) (lf : f < 4294967296) (ly : y < 65536) :
    Calls Try.prog 21 #[.agg #[.int .u16 (s : Int), .int .u16 (t : Int), .int .u32 (f : Int), .int .u16 (y : Int), .slice a n c]] w fun e w' => PutIs w (putN n) (laid s t f y x) (putE n) e w' := by
  by_cases h : 1 ≤ n ∧ n ≤ 64
  · obtain ⟨e1, e2⟩ := put_fit (fit_yes h.1 h.2)
    rw [e1, e2]
    exact rput_yes s t f y a n c x w hx h.1 h.2 ls lt lf ly
  · obtain ⟨e1, e2⟩ := put_unfit (fit_no h)
    rw [e1, e2]
    exact rput_no s t f y a n c w h _

end Go.Proofs.Ytcflaklnafggmaa

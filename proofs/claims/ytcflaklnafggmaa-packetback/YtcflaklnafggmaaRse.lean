/-
  The document's Seal and Open.
-/
import Derived.Test.YtcflaklnafggmaaRsu
namespace Go.Proofs.Ytcflaklnafggmaa
open Go.RowKit Go.Deep

set_option maxRecDepth 100000 in
set_option maxHeartbeats 400000 in
theorem rseal_any (a : Option Addr) (n c : Nat) (x : Nat → Nat) (w : World) (hx : BytesAt w a n x) (hn : n ≤ 100000) :
    Calls Try.prog 13 #[.slice a n c] w fun e w' => ∃ g cap, e = .returned (.slice (some ⟨g, 0, none⟩) (n + 4) cap) ∧ w.heap.size ≤ g ∧ n + 4 ≤ cap ∧ BytesAt w' (some ⟨g, 0, none⟩) (n + 4) (Crc.seald x n) ∧ Below w.heap.size w w' := by
  have lx := hx.lt
  have b1 : Below w.heap.size w (w.alloc (.cells #[] 5)) := (Below.refl _ w).alloc (Nat.le_refl _) _
  have E1 := Ror.empty w w.heap.size x (Nat.le_refl _)
  obtain ⟨v2, w2, happ, R2, g2⟩ := E1.push (c := c) (z := x) 24 (hx.grew b1) (by omega) b1.size (fun i hi => absurd hi (by omega)) (fun i hi => by rw [Nat.zero_add])
  rw [Nat.zero_add] at R2
  have b2 := grown_below E1 g2 b1 b1.size
  have HX2 : Hid (BytesAt w2 a n x) := hx.grew b2
  clear E1 g2 b1 hx
  go_enter Try.func13, Try.ntmps13
  go_wp2_with (at_builtin; refine Go.Lib.wpList_append_run _ rfl (.tmp 3) (.tmp 4) 24 24 rfl _ _ rfl rfl _ _ happ ?_)
  refine (rsum_any a n c x w2 HX2.out (by omega)).mono ?_
  rintro e w2' ⟨rfl, rfl⟩
  have ls := Crc.sum_lt n lx
  generalize hs : Crc.sum x n = s at *
  have HS : Hid (Crc.sum x n = s) := hs
  clear hs happ
  go_wp2_with fail
  refine (high_any s 4 _ (by omega) (by decide)).mono ?_
  rintro e w3 ⟨rfl, R3, d3⟩
  have B3 : BytesAt w3 (some ⟨w2'.heap.size, 0, none⟩) 4 (high s 4) := row_bytes' R3 (fun _ _ => rfl) (fun i _ => high_lt _ _ _)
  obtain ⟨v4, w4, happ, R4, g4⟩ := (R2.grown d3).push (c := 4) (z := Crc.seald x n) 24 B3 (by omega) (Nat.le_trans b2.size d3.size) (fun i hi => by unfold Crc.seald; rw [if_pos hi]) (fun i hi => by unfold Crc.seald; rw [if_neg (by omega), Nat.add_sub_cancel_left, HS.out, high_four _ _ hi])
  have b4 := grown_below (R2.grown d3) g4 (b2.trans (d3.mono b2.size)) (Nat.le_trans b2.size d3.size)
  obtain ⟨r, cap, rfl, h1, h2, h3, h4⟩ := ror_any R4 (fun i _ => Crc.seal_lt lx i)
  obtain ⟨g, rfl, h5⟩ := h3 (by omega)
  have HA : Hid (w.heap.size ≤ g ∧ n + 4 ≤ cap ∧ BytesAt w4 (some ⟨g, 0, none⟩) (n + 4) (Crc.seald x n) ∧ Below w.heap.size w w4) := ⟨h5, h1, h4, b4⟩
  clear R3 d3 B3 R4 g4 b4 h1 h2 h3 h4 h5 R2 b2 HX2 HS ls lx
  go_wp2_with (at_builtin; refine Go.Lib.wpList_append_run _ rfl (.tmp 5) (.tmp 9) 24 24 rfl _ _ rfl rfl _ _ happ ?_)
  go_ret
  exact ⟨g, cap, rfl, HA.out⟩

set_option maxRecDepth 100000 in
set_option maxHeartbeats 400000 in
theorem ropen_few (a : Option Addr) (n c : Nat) (w : World) (h : n < 4) :
    Calls Try.prog 17 #[.slice a n c] w fun e w' => e = .returned (.tuple #[.slice none 0 0, .bool false]) ∧ Below w.heap.size w w' := by
  have i1 : (n : Int) < 4 := by omega
  go_enter Try.func17, Try.ntmps17
  go_wp2
  go_ret2
  exact ⟨rfl, Below.refl _ _⟩

set_option maxRecDepth 100000 in
set_option maxHeartbeats 400000 in
theorem ropen_four (a : Option Addr) (m c : Nat) (y : Nat → Nat) (w : World) (hx : BytesAt w a (m + 4) y) (hc : m + 4 ≤ c) (hn : m ≤ 100000) :
    Calls Try.prog 17 #[.slice a (m + 4) c] w fun e w' => OpenIs w (opN y (m + 4)) y (opB y (m + 4)) e w' := by
  obtain ⟨b, o, rfl⟩ := bytes_some hx (by omega)
  have i1 : IntKind.i64.wrap ((m : Int) + 4 - 4) = (m : Int) := by rw [IntKind.wrap_i64]; omega
  have i0 : ¬ ((m : Int) + 4 < 4) := by omega
  have HX : Hid (BytesAt w (some ⟨b, o, none⟩) (m + 4) y) := hx
  have hsl := fun W => slice_from b o (m + 4) c m W (by omega) hc
  have hst := fun W => slice_to (some ⟨b, o, none⟩) (m + 4) c m W (by omega)
  rw [Nat.add_sub_cancel_left] at hsl
  have ls : Crc.sum y m < 4294967296 := Crc.sum_lt m fun i hi => hx.lt i (by omega)
  clear hx
  go_enter Try.func17, Try.ntmps17
  go_wp2_with fail
  refine wp_region_held (S := fun _ => True) (by kernel_rfl) ?_
  change wpAnyH _ _ _ _ _ _ _ _ w.drew
  have b3 : Below w.heap.size w w.drew := (Below.refl _ w).drew
  generalize w.drew = w3 at *
  refine wpAnyH_take (i := 0) (v := .slice (some ⟨b, o, none⟩) (m + 4) c) rfl (by kernel_rfl) (by kernel_rfl) (by kernel_rfl) (fun _ _ _ h => h) (Yields.yieldsIf (Or.inl ⟨by kernel_rfl, fun _ => by kernel_rfl⟩)) trivial ?_
  refine wpAnyH_take (i := 1) (v := .int .i64 (m : Int)) rfl (by kernel_rfl) (by kernel_rfl) (by kernel_rfl) (fun _ _ _ h => h) (Yields.yieldsIf (Or.inl ⟨by kernel_rfl, fun _ => by kernel_rfl⟩)) trivial ?_
  refine wpAnyH_take (i := 2) (v := .slice (some ⟨b, o, none⟩) m c) rfl (by kernel_rfl) (by kernel_rfl) (by kernel_rfl) (fun _ _ _ h => h) (Yields.yieldsIf (Or.inl ⟨by kernel_rfl, fun _ => by go_simp⟩)) trivial ?_
  refine wpAnyH_take (i := 5) (v := .slice (some ⟨b, o, none⟩) (m + 4) c) rfl (by kernel_rfl) (by kernel_rfl) (by kernel_rfl) (fun _ _ _ h => h) (Yields.yieldsIf (Or.inl ⟨by kernel_rfl, fun _ => by kernel_rfl⟩)) trivial ?_
  refine wpAnyH_take (i := 6) (v := .int .i64 (m : Int)) rfl (by kernel_rfl) (by kernel_rfl) (by kernel_rfl) (fun _ _ _ h => h) (Yields.yieldsIf (Or.inl ⟨by kernel_rfl, fun _ => by kernel_rfl⟩)) trivial ?_
  refine wpAnyH_take (i := 7) (v := .slice (some ⟨b, o + m, none⟩) 4 (c - m)) rfl (by kernel_rfl) (by kernel_rfl) (by kernel_rfl) (fun _ _ _ h => h) (Yields.yieldsIf (Or.inl ⟨by kernel_rfl, fun _ => by go_simp⟩)) trivial ?_
  refine wpAnyH_ready (rs := [3]) (by kernel_rfl) (by simp) ?_
  refine AllReadyH.cons rfl (fun K2 hK2 => ?_) AllReadyH.nil
  go_simp
  refine Calls.mono (rsum_any _ m c y w3 ((HX.out.grew b3).take (by omega)) (by omega)) ?_
  rintro e w4 ⟨rfl, rfl⟩
  refine hK2.out _ _ trivial (fun _ => ?_)
  clear hK2 K2
  refine wpAnyH_take (i := 4) (v := .int .u64 (Crc.sum y m : Int)) rfl (by kernel_rfl) (by kernel_rfl) (by kernel_rfl) (fun _ _ _ h => h) (Yields.yieldsIf (Or.inl ⟨by kernel_rfl, fun _ => by go_simp; rw [IntKind.wrap_u64]; omega⟩)) trivial ?_
  refine wpAnyH_ready (rs := [8]) (by kernel_rfl) (by simp) ?_
  refine AllReadyH.cons rfl (fun K2 hK2 => ?_) AllReadyH.nil
  go_simp
  refine Calls.mono (num_any _ 4 (c - m) _ w4 (HX.out.grew b3).drop (by decide)) ?_
  rintro e w5 ⟨rfl, rfl⟩
  rw [Crc.numTo_four]
  refine hK2.out _ _ trivial (fun _ => ?_)
  clear hK2 K2
  by_cases hok : Crc.ok y m
  · have i2 : ((Crc.num fun i => y (m + i) : Nat) : Int) = (Crc.sum y m : Int) := congrArg _ hok
    obtain ⟨q1, q2⟩ := op_yes hok
    refine wpAnyH_take (i := 9) (v := .bool false) rfl (by kernel_rfl) (by kernel_rfl) (by kernel_rfl) (fun _ _ _ h => h) (Yields.yieldsIf (Or.inl ⟨by kernel_rfl, fun _ => by go_simp⟩)) trivial ?_
    refine wpAnyH_done (by kernel_rfl) ?_ _
    have b6 := b3.alloc b3.size (.cells #[] 5)
    have E6 := Ror.empty w5 w.heap.size y b3.size
    obtain ⟨v7, w7, happ, R7, g7⟩ := E6.push (c := c) (z := y) 24 ((HX.out.below b6 (Nat.le_refl _)).take (m := m) (by omega)) (by omega) (Nat.le_trans b3.size (by simp)) (fun i hi => absurd hi (by omega)) (fun i hi => by rw [Nat.zero_add])
    rw [Nat.zero_add] at R7
    have b7 := grown_below E6 g7 b6 (Nat.le_trans b3.size (by simp))
    obtain ⟨r, cap, rfl, h1, h2, h3, h4⟩ := ror_any R7 (fun i hi => HX.out.lt i (by omega))
    have HA : Hid (OpenIs w (opN y (m + 4)) y (opB y (m + 4)) (.returned (.tuple #[.slice r m cap, .bool true])) w7) := by
      show OpenIs _ _ _ _ _ _
      rw [q1, q2]
      exact ⟨r, cap, rfl, h1, h2, h3, h4, b7⟩
    clear b6 E6 R7 g7 b7 h1 h2 h3 h4 i2 hok q1 q2 hsl b3 ls
    go_wp2_with (at_builtin; refine Go.Lib.wpList_append_run _ rfl (.tmp 21) (.tmp 24) 24 24 rfl _ _ rfl rfl _ _ happ ?_)
    go_ret2
    exact HA.out
  · have i2 : ((Crc.num fun i => y (m + i) : Nat) : Int) ≠ (Crc.sum y m : Int) := fun h => hok (Int.ofNat.inj h)
    have i3 : (Crc.sum y m : Int) ≠ ((Crc.num fun i => y (m + i) : Nat) : Int) := fun h => i2 h.symm
    obtain ⟨q1, q2⟩ := op_no hok
    have HA : Hid (OpenIs w (opN y (m + 4)) y (opB y (m + 4)) (.returned (.tuple #[.slice none 0 0, .bool false])) w5) := by
      show OpenIs _ _ _ _ _ _
      rw [q1, q2]
      exact OpenIs.no b3
    refine wpAnyH_take (i := 9) (v := .bool true) rfl (by kernel_rfl) (by kernel_rfl) (by kernel_rfl) (fun _ _ _ h => h) (Yields.yieldsIf (Or.inl ⟨by kernel_rfl, fun _ => by go_simp⟩)) trivial ?_
    refine wpAnyH_done (by kernel_rfl) ?_ _
    clear i2 i3 hok q1 q2 hsl hst b3 ls
    go_wp2
    go_ret2
    exact HA.out

theorem ropen_any (a : Option Addr) (n c : Nat) (y : Nat → Nat) (w : World) (hx : BytesAt w a n y) (hc : n ≤ c) (hn : n ≤ 100000) :
    Calls Try.prog 17 #[.slice a n c] w fun e w' => OpenIs w (opN y n) y (opB y n) e w' := by
  by_cases h : n < 4
  · obtain ⟨q1, q2⟩ := op_few (y := y) h
    rw [q1, q2]
    refine (ropen_few a n c w h).mono ?_
    rintro e w' ⟨rfl, hb⟩
    exact OpenIs.no hb
  · obtain ⟨m, rfl⟩ : ∃ m, n = m + 4 := ⟨n - 4, by omega⟩
    exact ropen_four a m c y w hx hc (by omega)
end Go.Proofs.Ytcflaklnafggmaa

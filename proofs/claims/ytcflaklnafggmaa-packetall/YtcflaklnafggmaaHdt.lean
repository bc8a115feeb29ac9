/-
  The document's TakeData.
-/
import Derived.Test.YtcflaklnafggmaaHdr
namespace Go.Proofs.Ytcflaklnafggmaa
open Go.RowKit Go.Deep

set_option maxRecDepth 100000 in
set_option maxHeartbeats 400000 in
theorem rtake_no (a : Option Addr) (n c : Nat) (x : Nat → Nat) (w : World) (h : ¬ (11 ≤ n ∧ n ≤ 74)) :
    Calls Try.prog 28 #[.slice a n c] w fun e w' => TakeIs w n x e w' := by
  have HA : Hid (TakeIs w n x (.returned (.tuple #[.agg #[.int .u16 0, .int .u16 0, .int .u32 0, .int .u16 0, .slice none 0 0], .int .i64 2])) (w.alloc (.cells #[.int .u16 0, .int .u16 0, .int .u32 0, .int .u16 0, .slice none 0 0] 26))) := TakeIs.no h ((Below.refl _ _).alloc (Nat.le_refl _) _)
  have D := DatAt.made w 26 0 0 0 0 none 0 0
  change DatAt (w.alloc (.cells #[.int .u16 0, .int .u16 0, .int .u32 0, .int .u16 0, .slice none 0 0] 26)) _ _ _ _ _ _ _ _ at D
  have q0 := D.c0
  have q1 := D.c1
  have q2 := D.c2
  have q3 := D.c3
  have q4 := D.c4
  clear D
  by_cases h0 : n < 11
  · have i1 : (n : Int) < 11 := by omega
    go_enter Try.func28, Try.ntmps28
    go_wp2
    refine bodyPost_ret (v := .tuple #[.agg #[.int .u16 0, .int .u16 0, .int .u32 0, .int .u16 0, .slice none 0 0], .int .i64 2]) ?_ rfl HA.out
    simp [results, Try.results28, go_sem, q0, q1, q2, q3, q4]
  · have i1 : decide ((n : Int) < 11) = false := by simp; omega
    have i2 : (74 : Int) < (n : Int) := by omega
    clear h h0
    go_enter Try.func28, Try.ntmps28
    go_wp2
    refine bodyPost_ret (v := .tuple #[.agg #[.int .u16 0, .int .u16 0, .int .u32 0, .int .u16 0, .slice none 0 0], .int .i64 2]) ?_ rfl HA.out
    simp [results, Try.results28, go_sem, q0, q1, q2, q3, q4]

set_option maxRecDepth 100000 in
set_option maxHeartbeats 2000000 in
theorem rtake_yes (a : Option Addr) (n c : Nat) (x : Nat → Nat) (w : World) (hx : BytesAt w a n x) (hc : n ≤ c) (n1 : 11 ≤ n) (n2 : n ≤ 74) :
    Calls Try.prog 28 #[.slice a n c] w fun e w' => TakeIs w n x e w' := by
  obtain ⟨b, o, rfl⟩ := bytes_some hx (by omega)
  have D1 := DatAt.made w 26 0 0 0 0 none 0 0
  change DatAt (w.alloc (.cells #[.int .u16 0, .int .u16 0, .int .u32 0, .int .u16 0, .slice none 0 0] 26)) _ _ _ _ _ _ _ _ at D1
  have b1 : Below w.heap.size w (w.alloc (.cells #[.int .u16 0, .int .u16 0, .int .u32 0, .int .u16 0, .slice none 0 0] 26)) := (Below.refl _ _).alloc (Nat.le_refl _) _
  have s1 : (w.alloc (.cells #[.int .u16 0, .int .u16 0, .int .u32 0, .int .u16 0, .slice none 0 0] 26)).heap.size = w.heap.size + 1 := by simp
  have i1 : decide ((n : Int) < 11) = false := by simp; omega
  have i2 : decide ((74 : Int) < (n : Int)) = false := by simp; omega
  have hs0 : ∀ W, (Instr.slice 24 (.slice (some ⟨b, o, none⟩) n c) none (some (.int .i64 2)) none).run Try.prog W = .ok (.slice (some ⟨b, o, none⟩) 2 c) W := fun W => slice_to (some ⟨b, o, none⟩) n c 2 W (by omega)
  have hs1 : ∀ W, (Instr.slice 24 (.slice (some ⟨b, o, none⟩) n c) (some (.int .i64 2)) (some (.int .i64 4)) none).run Try.prog W = .ok (.slice (some ⟨b, o + 2, none⟩) 2 (c - 2)) W := fun W => slice_span b o n c 2 4 W (by omega) (by omega) (by omega)
  have hs2 : ∀ W, (Instr.slice 24 (.slice (some ⟨b, o, none⟩) n c) (some (.int .i64 4)) (some (.int .i64 8)) none).run Try.prog W = .ok (.slice (some ⟨b, o + 4, none⟩) 4 (c - 4)) W := fun W => slice_span b o n c 4 8 W (by omega) (by omega) (by omega)
  have hs3 : ∀ W, (Instr.slice 24 (.slice (some ⟨b, o, none⟩) n c) (some (.int .i64 8)) (some (.int .i64 10)) none).run Try.prog W = .ok (.slice (some ⟨b, o + 8, none⟩) 2 (c - 8)) W := fun W => slice_span b o n c 8 10 W (by omega) (by omega) (by omega)
  have hs4 : ∀ W, (Instr.slice 24 (.slice (some ⟨b, o, none⟩) n c) (some (.int .i64 10)) none none).run Try.prog W = .ok (.slice (some ⟨b, o + 10, none⟩) (n - 10) (c - 10)) W := fun W => slice_from b o n c 10 W (by omega) hc
  have X1 : BytesAt (w.alloc (.cells #[.int .u16 0, .int .u16 0, .int .u32 0, .int .u16 0, .slice none 0 0] 26)) (some ⟨b, o, none⟩) n x := hx.grew b1
  have lx := hx.lt
  clear hx
  go_enter Try.func28, Try.ntmps28
  go_wp2_with fail
  refine wp_region_held (S := fun _ => True) (by kernel_rfl) ?_
  change wpAnyH _ _ _ _ _ _ _ _ (w.alloc (.cells #[.int .u16 0, .int .u16 0, .int .u32 0, .int .u16 0, .slice none 0 0] 26)).drew
  have D2 : Hid (DatAt (w.alloc (.cells #[.int .u16 0, .int .u16 0, .int .u32 0, .int .u16 0, .slice none 0 0] 26)).drew w.heap.size 0 0 0 0 none 0 0) := D1.grew (Below.refl _ _).drew
  have b2 : Hid (Below w.heap.size w (w.alloc (.cells #[.int .u16 0, .int .u16 0, .int .u32 0, .int .u16 0, .slice none 0 0] 26)).drew) := b1.drew
  have s2 : Hid ((w.alloc (.cells #[.int .u16 0, .int .u16 0, .int .u32 0, .int .u16 0, .slice none 0 0] 26)).drew.heap.size = w.heap.size + 1) := s1
  have X2 : Hid (BytesAt (w.alloc (.cells #[.int .u16 0, .int .u16 0, .int .u32 0, .int .u16 0, .slice none 0 0] 26)).drew (some ⟨b, o, none⟩) n x) := X1.grew (Below.refl _ _).drew
  clear D1 b1 s1 X1
  generalize (w.alloc (.cells #[.int .u16 0, .int .u16 0, .int .u32 0, .int .u16 0, .slice none 0 0] 26)).drew = w2 at *
  obtain ⟨s, hs⟩ : ∃ s, s = Crc.numTo x 2 := ⟨_, rfl⟩
  have ls : s < 65536 := by rw [hs]; exact Crc.numTo_lt 2 fun i hi => lx _ (by omega)
  have Hs : Hid (s = Crc.numTo x 2) := hs
  have Ns : Hid (∀ W, BytesAt W (some ⟨b, o, none⟩) n x → Calls Try.prog 34 #[.slice (some ⟨b, o, none⟩) 2 (c)] W fun e w' => e = .returned (.int .u64 (s : Int)) ∧ w' = W) := fun W hW => by
    rw [hs]
    exact num_any _ 2 _ _ W (hW.take (by omega)) (by decide)
  clear hs
  obtain ⟨t, ht⟩ : ∃ t, t = Crc.numTo (fun i => x (2 + i)) 2 := ⟨_, rfl⟩
  have lt : t < 65536 := by rw [ht]; exact Crc.numTo_lt 2 fun i hi => lx _ (by omega)
  have Ht : Hid (t = Crc.numTo (fun i => x (2 + i)) 2) := ht
  have Nt : Hid (∀ W, BytesAt W (some ⟨b, o, none⟩) n x → Calls Try.prog 34 #[.slice (some ⟨b, o + 2, none⟩) 2 (c - 2)] W fun e w' => e = .returned (.int .u64 (t : Int)) ∧ w' = W) := fun W hW => by
    rw [ht]
    exact num_any _ 2 _ _ W (hW.span (by omega)) (by decide)
  clear ht
  obtain ⟨f, hf⟩ : ∃ f, f = Crc.numTo (fun i => x (4 + i)) 4 := ⟨_, rfl⟩
  have lf : f < 4294967296 := by rw [hf]; exact Crc.numTo_lt 4 fun i hi => lx _ (by omega)
  have Hf : Hid (f = Crc.numTo (fun i => x (4 + i)) 4) := hf
  have Nf : Hid (∀ W, BytesAt W (some ⟨b, o, none⟩) n x → Calls Try.prog 34 #[.slice (some ⟨b, o + 4, none⟩) 4 (c - 4)] W fun e w' => e = .returned (.int .u64 (f : Int)) ∧ w' = W) := fun W hW => by
    rw [hf]
    exact num_any _ 4 _ _ W (hW.span (by omega)) (by decide)
  clear hf
  obtain ⟨y, hy⟩ : ∃ y, y = Crc.numTo (fun i => x (8 + i)) 2 := ⟨_, rfl⟩
  have ly : y < 65536 := by rw [hy]; exact Crc.numTo_lt 2 fun i hi => lx _ (by omega)
  have Hy : Hid (y = Crc.numTo (fun i => x (8 + i)) 2) := hy
  have Ny : Hid (∀ W, BytesAt W (some ⟨b, o, none⟩) n x → Calls Try.prog 34 #[.slice (some ⟨b, o + 8, none⟩) 2 (c - 8)] W fun e w' => e = .returned (.int .u64 (y : Int)) ∧ w' = W) := fun W hW => by
    rw [hy]
    exact num_any _ 2 _ _ W (hW.span (by omega)) (by decide)
  clear hy
  refine wpAnyH_take (i := 0) (v := .slice (some ⟨b, o, none⟩) n c) rfl (by kernel_rfl) (by kernel_rfl) (by kernel_rfl) (fun _ _ _ h => h) (Yields.yieldsIf (Or.inl ⟨by kernel_rfl, fun _ => by kernel_rfl⟩)) trivial ?_
  refine wpAnyH_take (i := 1) (v := .slice (some ⟨b, o, none⟩) 2 c) rfl (by kernel_rfl) (by kernel_rfl) (by kernel_rfl) (fun _ _ _ h => h) (Yields.yieldsIf (Or.inl ⟨by kernel_rfl, fun _ => by go_simp⟩)) trivial ?_
  refine wpAnyH_take (i := 4) (v := .slice (some ⟨b, o, none⟩) n c) rfl (by kernel_rfl) (by kernel_rfl) (by kernel_rfl) (fun _ _ _ h => h) (Yields.yieldsIf (Or.inl ⟨by kernel_rfl, fun _ => by kernel_rfl⟩)) trivial ?_
  refine wpAnyH_take (i := 5) (v := .slice (some ⟨b, o + 2, none⟩) 2 (c - 2)) rfl (by kernel_rfl) (by kernel_rfl) (by kernel_rfl) (fun _ _ _ h => h) (Yields.yieldsIf (Or.inl ⟨by kernel_rfl, fun _ => by go_simp⟩)) trivial ?_
  refine wpAnyH_take (i := 8) (v := .slice (some ⟨b, o, none⟩) n c) rfl (by kernel_rfl) (by kernel_rfl) (by kernel_rfl) (fun _ _ _ h => h) (Yields.yieldsIf (Or.inl ⟨by kernel_rfl, fun _ => by kernel_rfl⟩)) trivial ?_
  refine wpAnyH_take (i := 9) (v := .slice (some ⟨b, o + 4, none⟩) 4 (c - 4)) rfl (by kernel_rfl) (by kernel_rfl) (by kernel_rfl) (fun _ _ _ h => h) (Yields.yieldsIf (Or.inl ⟨by kernel_rfl, fun _ => by go_simp⟩)) trivial ?_
  refine wpAnyH_take (i := 12) (v := .slice (some ⟨b, o, none⟩) n c) rfl (by kernel_rfl) (by kernel_rfl) (by kernel_rfl) (fun _ _ _ h => h) (Yields.yieldsIf (Or.inl ⟨by kernel_rfl, fun _ => by kernel_rfl⟩)) trivial ?_
  refine wpAnyH_take (i := 13) (v := .slice (some ⟨b, o + 8, none⟩) 2 (c - 8)) rfl (by kernel_rfl) (by kernel_rfl) (by kernel_rfl) (fun _ _ _ h => h) (Yields.yieldsIf (Or.inl ⟨by kernel_rfl, fun _ => by go_simp⟩)) trivial ?_
  refine wpAnyH_take (i := 17) (v := .slice (some ⟨b, o, none⟩) n c) rfl (by kernel_rfl) (by kernel_rfl) (by kernel_rfl) (fun _ _ _ h => h) (Yields.yieldsIf (Or.inl ⟨by kernel_rfl, fun _ => by kernel_rfl⟩)) trivial ?_
  refine wpAnyH_take (i := 18) (v := .slice (some ⟨b, o + 10, none⟩) (n - 10) (c - 10)) rfl (by kernel_rfl) (by kernel_rfl) (by kernel_rfl) (fun _ _ _ h => h) (Yields.yieldsIf (Or.inl ⟨by kernel_rfl, fun _ => by go_simp⟩)) trivial ?_
  have A3 : Hid (Below w2.heap.size w2 (w2.alloc (.cells #[] 5))) := (Below.refl _ _).alloc (Nat.le_refl _) _
  have E3 := Ror.empty w2 w2.heap.size x (Nat.le_refl _)
  obtain ⟨v4, w4, happ, O4, g4⟩ := E3.push (c := c - 10) (z := fun i => x (10 + i)) 24 ((X2.out.grew A3.out).span (lo := 10) (m := n - 10) (by omega)) (by omega) A3.out.size (fun i hi => absurd hi (by omega)) (fun i hi => by rw [Nat.zero_add])
  rw [Nat.zero_add] at O4
  have A4 := grown_below E3 g4 A3.out A3.out.size
  obtain ⟨r, cap, rfl, h1, -, h3, h4⟩ := ror_any O4 (fun i hi => lx _ (by omega))
  obtain ⟨g, rfl, h5⟩ := h3 (by omega)
  have l2 := s2.out
  have D4 := D2.out.grew A4
  have D5 := D4.seq s
  have D6 := D5.stamp t
  have D7 := D6.frame f
  have D8 := D7.symbol y
  have D9 := D8.body (some ⟨g, 0, none⟩) (n - 10) cap
  have X9 := ((((h4.setNum (v := .int .u16 (s : Int)) D4.c0 (by decide)).setNum (v := .int .u16 (t : Int)) D5.c1 (by decide)).setNum (v := .int .u32 (f : Int)) D6.c2 (by decide)).setNum (v := .int .u16 (y : Int)) D7.c3 (by decide)).setSlice (v := .slice (some ⟨g, 0, none⟩) (n - 10) cap) D8.c4
  have b4 : Below w.heap.size w w4 := b2.out.trans (A4.mono b2.out.size)
  have b9 := ((((b4.setCell (p := ⟨w.heap.size, 0, none⟩) (Nat.le_refl _) (.int .u16 (s : Int))).setCell (p := ⟨w.heap.size, 1, none⟩) (Nat.le_refl _) (.int .u16 (t : Int))).setCell (p := ⟨w.heap.size, 2, none⟩) (Nat.le_refl _) (.int .u32 (f : Int))).setCell (p := ⟨w.heap.size, 3, none⟩) (Nat.le_refl _) (.int .u16 (y : Int))).setCell (p := ⟨w.heap.size, 4, none⟩) (Nat.le_refl _) (.slice (some ⟨g, 0, none⟩) (n - 10) cap)
  have HA : Hid (TakeIs w n x (.returned (.tuple #[.agg #[.int .u16 (s : Int), .int .u16 (t : Int), .int .u32 (f : Int), .int .u16 (y : Int), .slice (some ⟨g, 0, none⟩) (n - 10) cap], .int .i64 0])) (((((w4.setCell ⟨w.heap.size, 0, none⟩ (.int .u16 (s : Int))).setCell ⟨w.heap.size, 1, none⟩ (.int .u16 (t : Int))).setCell ⟨w.heap.size, 2, none⟩ (.int .u32 (f : Int))).setCell ⟨w.heap.size, 3, none⟩ (.int .u16 (y : Int))).setCell ⟨w.heap.size, 4, none⟩ (.slice (some ⟨g, 0, none⟩) (n - 10) cap))) := TakeIs.yes n1 n2 Hs.out Ht.out Hf.out Hy.out h1 ⟨g, rfl, by omega⟩ X9 b9
  have p0 := D4.c0
  have p1 := D4.c1
  have p2 := D4.c2
  have p3 := D4.c3
  have p4 := D4.c4
  have z0 := D4.frz 0
  have z1 := D4.frz 1
  have z2 := D4.frz 2
  have z3 := D4.frz 3
  have z4 := D4.frz 4
  have q0 := D9.c0
  have q1 := D9.c1
  have q2 := D9.c2
  have q3 := D9.c3
  have q4 := D9.c4
  clear E3 O4 g4 A4 h1 h3 h4 h5 l2 D4 D5 D6 D7 D8 D9 X9 b4 b9 D2 b2 s2 Hs Ht Hf Hy
  refine wpAnyH_ready (rs := [2, 16]) (by kernel_rfl) (by simp) ?_
  refine AllReadyH.cons rfl (fun K2 hK2 => ?_) (AllReadyH.cons rfl (fun K2 hK2 => ?_) AllReadyH.nil)
  · go_simp
    refine Calls.mono (Ns.out w2 X2.out) ?_
    rintro e w' ⟨rfl, hw⟩
    have hw := hw.symm
    subst hw
    refine hK2.out _ _ trivial (fun _ => ?_)
    clear hK2 K2
    refine wpAnyH_take (i := 3) (v := .int .u16 (s : Int)) rfl (by kernel_rfl) (by kernel_rfl) (by kernel_rfl) (fun _ _ _ h => h) (Yields.yieldsIf (Or.inl ⟨by kernel_rfl, fun _ => by go_simp; rw [IntKind.wrap_u16]; omega⟩)) trivial ?_
    refine wpAnyH_ready (rs := [6, 16]) (by kernel_rfl) (by simp) ?_
    refine AllReadyH.cons rfl (fun K2 hK2 => ?_) (AllReadyH.cons rfl (fun K2 hK2 => ?_) AllReadyH.nil)
    · go_simp
      refine Calls.mono (Nt.out w2 X2.out) ?_
      rintro e w' ⟨rfl, hw⟩
      have hw := hw.symm
      subst hw
      refine hK2.out _ _ trivial (fun _ => ?_)
      clear hK2 K2
      refine wpAnyH_take (i := 7) (v := .int .u16 (t : Int)) rfl (by kernel_rfl) (by kernel_rfl) (by kernel_rfl) (fun _ _ _ h => h) (Yields.yieldsIf (Or.inl ⟨by kernel_rfl, fun _ => by go_simp; rw [IntKind.wrap_u16]; omega⟩)) trivial ?_
      refine wpAnyH_ready (rs := [10, 16]) (by kernel_rfl) (by simp) ?_
      refine AllReadyH.cons rfl (fun K2 hK2 => ?_) (AllReadyH.cons rfl (fun K2 hK2 => ?_) AllReadyH.nil)
      · go_simp
        refine Calls.mono (Nf.out w2 X2.out) ?_
        rintro e w' ⟨rfl, hw⟩
        have hw := hw.symm
        subst hw
        refine hK2.out _ _ trivial (fun _ => ?_)
        clear hK2 K2
        refine wpAnyH_take (i := 11) (v := .int .u32 (f : Int)) rfl (by kernel_rfl) (by kernel_rfl) (by kernel_rfl) (fun _ _ _ h => h) (Yields.yieldsIf (Or.inl ⟨by kernel_rfl, fun _ => by go_simp; rw [IntKind.wrap_u32']; omega⟩)) trivial ?_
        refine wpAnyH_ready (rs := [14, 16]) (by kernel_rfl) (by simp) ?_
        refine AllReadyH.cons rfl (fun K2 hK2 => ?_) (AllReadyH.cons rfl (fun K2 hK2 => ?_) AllReadyH.nil)
        · go_simp
          refine Calls.mono (Ny.out w2 X2.out) ?_
          rintro e w' ⟨rfl, hw⟩
          have hw := hw.symm
          subst hw
          refine hK2.out _ _ trivial (fun _ => ?_)
          clear hK2 K2
          refine wpAnyH_take (i := 15) (v := .int .u16 (y : Int)) rfl (by kernel_rfl) (by kernel_rfl) (by kernel_rfl) (fun _ _ _ h => h) (Yields.yieldsIf (Or.inl ⟨by kernel_rfl, fun _ => by go_simp; rw [IntKind.wrap_u16]; omega⟩)) trivial ?_
          refine wpAnyH_ready (rs := [16]) (by kernel_rfl) (by simp) ?_
          refine AllReadyH.cons rfl (fun K2 hK2 => ?_) AllReadyH.nil
          go_simp
          refine hK2.out _ _ trivial (fun _ => ?_)
          clear hK2 K2
          refine wpAnyH_ready (rs := [19]) (by kernel_rfl) (by simp) ?_
          refine AllReadyH.cons rfl (fun K2 hK2 => ?_) AllReadyH.nil
          refine step_append_run rfl (.tmp 29) (.tmp 31) 24 rfl _ _ rfl rfl _ _ happ ?_
          refine hK2.out _ _ trivial (fun _ => ?_)
          clear hK2 K2
          refine wpAnyH_take (i := 20) (v := .agg #[.int .u16 (s : Int), .int .u16 (t : Int), .int .u32 (f : Int), .int .u16 (y : Int), .slice (some ⟨g, 0, none⟩) (n - 10) cap]) rfl (by kernel_rfl) (by kernel_rfl) (by kernel_rfl) (fun _ _ _ h => h) (Yields.yieldsIf (Or.inl ⟨by kernel_rfl, fun _ => by kernel_rfl⟩)) trivial ?_
          refine wpAnyH_ready (rs := [21]) (by kernel_rfl) (by simp) ?_
          refine AllReadyH.cons rfl (fun K2 hK2 => ?_) AllReadyH.nil
          go_simp
          refine hK2.out _ _ trivial (fun _ => ?_)
          clear hK2 K2
          refine wpAnyH_take (i := 22) (v := .int .i64 0) rfl (by kernel_rfl) (by kernel_rfl) (by kernel_rfl) (fun _ _ _ h => h) (Yields.yieldsIf (Or.inl ⟨by kernel_rfl, fun _ => by kernel_rfl⟩)) trivial ?_
          refine wpAnyH_done (by kernel_rfl) ?_ _
          generalize (((((w4.setCell ⟨w.heap.size, 0, none⟩ (.int .u16 (s : Int))).setCell ⟨w.heap.size, 1, none⟩ (.int .u16 (t : Int))).setCell ⟨w.heap.size, 2, none⟩ (.int .u32 (f : Int))).setCell ⟨w.heap.size, 3, none⟩ (.int .u16 (y : Int))).setCell ⟨w.heap.size, 4, none⟩ (.slice (some ⟨g, 0, none⟩) (n - 10) cap)) = w5 at *
          clear z0 z1 z2 z3 z4 p0 p1 p2 p3 p4
          go_wp2
          refine bodyPost_ret (v := .tuple #[.agg #[.int .u16 (s : Int), .int .u16 (t : Int), .int .u32 (f : Int), .int .u16 (y : Int), .slice (some ⟨g, 0, none⟩) (n - 10) cap], .int .i64 0]) ?_ rfl HA.out
          simp [results, Try.results28, go_sem, q0, q1, q2, q3, q4]
        · go_simp
          refine hK2.out _ _ trivial (fun _ => ?_)
          clear hK2 K2
          refine wpAnyH_ready (rs := [14]) (by kernel_rfl) (by simp) ?_
          refine AllReadyH.cons rfl (fun K2 hK2 => ?_) AllReadyH.nil
          go_simp
          refine Calls.mono (Ny.out _ (X2.out.grew A3.out)) ?_
          rintro e w' ⟨rfl, hw⟩
          have hw := hw.symm
          subst hw
          refine hK2.out _ _ trivial (fun _ => ?_)
          clear hK2 K2
          refine wpAnyH_take (i := 15) (v := .int .u16 (y : Int)) rfl (by kernel_rfl) (by kernel_rfl) (by kernel_rfl) (fun _ _ _ h => h) (Yields.yieldsIf (Or.inl ⟨by kernel_rfl, fun _ => by go_simp; rw [IntKind.wrap_u16]; omega⟩)) trivial ?_
          refine wpAnyH_ready (rs := [19]) (by kernel_rfl) (by simp) ?_
          refine AllReadyH.cons rfl (fun K2 hK2 => ?_) AllReadyH.nil
          refine step_append_run rfl (.tmp 29) (.tmp 31) 24 rfl _ _ rfl rfl _ _ happ ?_
          refine hK2.out _ _ trivial (fun _ => ?_)
          clear hK2 K2
          refine wpAnyH_take (i := 20) (v := .agg #[.int .u16 (s : Int), .int .u16 (t : Int), .int .u32 (f : Int), .int .u16 (y : Int), .slice (some ⟨g, 0, none⟩) (n - 10) cap]) rfl (by kernel_rfl) (by kernel_rfl) (by kernel_rfl) (fun _ _ _ h => h) (Yields.yieldsIf (Or.inl ⟨by kernel_rfl, fun _ => by kernel_rfl⟩)) trivial ?_
          refine wpAnyH_ready (rs := [21]) (by kernel_rfl) (by simp) ?_
          refine AllReadyH.cons rfl (fun K2 hK2 => ?_) AllReadyH.nil
          go_simp
          refine hK2.out _ _ trivial (fun _ => ?_)
          clear hK2 K2
          refine wpAnyH_take (i := 22) (v := .int .i64 0) rfl (by kernel_rfl) (by kernel_rfl) (by kernel_rfl) (fun _ _ _ h => h) (Yields.yieldsIf (Or.inl ⟨by kernel_rfl, fun _ => by kernel_rfl⟩)) trivial ?_
          refine wpAnyH_done (by kernel_rfl) ?_ _
          generalize (((((w4.setCell ⟨w.heap.size, 0, none⟩ (.int .u16 (s : Int))).setCell ⟨w.heap.size, 1, none⟩ (.int .u16 (t : Int))).setCell ⟨w.heap.size, 2, none⟩ (.int .u32 (f : Int))).setCell ⟨w.heap.size, 3, none⟩ (.int .u16 (y : Int))).setCell ⟨w.heap.size, 4, none⟩ (.slice (some ⟨g, 0, none⟩) (n - 10) cap)) = w5 at *
          clear z0 z1 z2 z3 z4 p0 p1 p2 p3 p4
          go_wp2
          refine bodyPost_ret (v := .tuple #[.agg #[.int .u16 (s : Int), .int .u16 (t : Int), .int .u32 (f : Int), .int .u16 (y : Int), .slice (some ⟨g, 0, none⟩) (n - 10) cap], .int .i64 0]) ?_ rfl HA.out
          simp [results, Try.results28, go_sem, q0, q1, q2, q3, q4]
      · go_simp
        refine hK2.out _ _ trivial (fun _ => ?_)
        clear hK2 K2
        refine wpAnyH_ready (rs := [10]) (by kernel_rfl) (by simp) ?_
        refine AllReadyH.cons rfl (fun K2 hK2 => ?_) AllReadyH.nil
        go_simp
        refine Calls.mono (Nf.out _ (X2.out.grew A3.out)) ?_
        rintro e w' ⟨rfl, hw⟩
        have hw := hw.symm
        subst hw
        refine hK2.out _ _ trivial (fun _ => ?_)
        clear hK2 K2
        refine wpAnyH_take (i := 11) (v := .int .u32 (f : Int)) rfl (by kernel_rfl) (by kernel_rfl) (by kernel_rfl) (fun _ _ _ h => h) (Yields.yieldsIf (Or.inl ⟨by kernel_rfl, fun _ => by go_simp; rw [IntKind.wrap_u32']; omega⟩)) trivial ?_
        refine wpAnyH_ready (rs := [14]) (by kernel_rfl) (by simp) ?_
        refine AllReadyH.cons rfl (fun K2 hK2 => ?_) AllReadyH.nil
        go_simp
        refine Calls.mono (Ny.out _ (X2.out.grew A3.out)) ?_
        rintro e w' ⟨rfl, hw⟩
        have hw := hw.symm
        subst hw
        refine hK2.out _ _ trivial (fun _ => ?_)
        clear hK2 K2
        refine wpAnyH_take (i := 15) (v := .int .u16 (y : Int)) rfl (by kernel_rfl) (by kernel_rfl) (by kernel_rfl) (fun _ _ _ h => h) (Yields.yieldsIf (Or.inl ⟨by kernel_rfl, fun _ => by go_simp; rw [IntKind.wrap_u16]; omega⟩)) trivial ?_
        refine wpAnyH_ready (rs := [19]) (by kernel_rfl) (by simp) ?_
        refine AllReadyH.cons rfl (fun K2 hK2 => ?_) AllReadyH.nil
        refine step_append_run rfl (.tmp 29) (.tmp 31) 24 rfl _ _ rfl rfl _ _ happ ?_
        refine hK2.out _ _ trivial (fun _ => ?_)
        clear hK2 K2
        refine wpAnyH_take (i := 20) (v := .agg #[.int .u16 (s : Int), .int .u16 (t : Int), .int .u32 (f : Int), .int .u16 (y : Int), .slice (some ⟨g, 0, none⟩) (n - 10) cap]) rfl (by kernel_rfl) (by kernel_rfl) (by kernel_rfl) (fun _ _ _ h => h) (Yields.yieldsIf (Or.inl ⟨by kernel_rfl, fun _ => by kernel_rfl⟩)) trivial ?_
        refine wpAnyH_ready (rs := [21]) (by kernel_rfl) (by simp) ?_
        refine AllReadyH.cons rfl (fun K2 hK2 => ?_) AllReadyH.nil
        go_simp
        refine hK2.out _ _ trivial (fun _ => ?_)
        clear hK2 K2
        refine wpAnyH_take (i := 22) (v := .int .i64 0) rfl (by kernel_rfl) (by kernel_rfl) (by kernel_rfl) (fun _ _ _ h => h) (Yields.yieldsIf (Or.inl ⟨by kernel_rfl, fun _ => by kernel_rfl⟩)) trivial ?_
        refine wpAnyH_done (by kernel_rfl) ?_ _
        generalize (((((w4.setCell ⟨w.heap.size, 0, none⟩ (.int .u16 (s : Int))).setCell ⟨w.heap.size, 1, none⟩ (.int .u16 (t : Int))).setCell ⟨w.heap.size, 2, none⟩ (.int .u32 (f : Int))).setCell ⟨w.heap.size, 3, none⟩ (.int .u16 (y : Int))).setCell ⟨w.heap.size, 4, none⟩ (.slice (some ⟨g, 0, none⟩) (n - 10) cap)) = w5 at *
        clear z0 z1 z2 z3 z4 p0 p1 p2 p3 p4
        go_wp2
        refine bodyPost_ret (v := .tuple #[.agg #[.int .u16 (s : Int), .int .u16 (t : Int), .int .u32 (f : Int), .int .u16 (y : Int), .slice (some ⟨g, 0, none⟩) (n - 10) cap], .int .i64 0]) ?_ rfl HA.out
        simp [results, Try.results28, go_sem, q0, q1, q2, q3, q4]
    · go_simp
      refine hK2.out _ _ trivial (fun _ => ?_)
      clear hK2 K2
      refine wpAnyH_ready (rs := [6]) (by kernel_rfl) (by simp) ?_
      refine AllReadyH.cons rfl (fun K2 hK2 => ?_) AllReadyH.nil
      go_simp
      refine Calls.mono (Nt.out _ (X2.out.grew A3.out)) ?_
      rintro e w' ⟨rfl, hw⟩
      have hw := hw.symm
      subst hw
      refine hK2.out _ _ trivial (fun _ => ?_)
      clear hK2 K2
      refine wpAnyH_take (i := 7) (v := .int .u16 (t : Int)) rfl (by kernel_rfl) (by kernel_rfl) (by kernel_rfl) (fun _ _ _ h => h) (Yields.yieldsIf (Or.inl ⟨by kernel_rfl, fun _ => by go_simp; rw [IntKind.wrap_u16]; omega⟩)) trivial ?_
      refine wpAnyH_ready (rs := [10]) (by kernel_rfl) (by simp) ?_
      refine AllReadyH.cons rfl (fun K2 hK2 => ?_) AllReadyH.nil
      go_simp
      refine Calls.mono (Nf.out _ (X2.out.grew A3.out)) ?_
      rintro e w' ⟨rfl, hw⟩
      have hw := hw.symm
      subst hw
      refine hK2.out _ _ trivial (fun _ => ?_)
      clear hK2 K2
      refine wpAnyH_take (i := 11) (v := .int .u32 (f : Int)) rfl (by kernel_rfl) (by kernel_rfl) (by kernel_rfl) (fun _ _ _ h => h) (Yields.yieldsIf (Or.inl ⟨by kernel_rfl, fun _ => by go_simp; rw [IntKind.wrap_u32']; omega⟩)) trivial ?_
      refine wpAnyH_ready (rs := [14]) (by kernel_rfl) (by simp) ?_
      refine AllReadyH.cons rfl (fun K2 hK2 => ?_) AllReadyH.nil
      go_simp
      refine Calls.mono (Ny.out _ (X2.out.grew A3.out)) ?_
      rintro e w' ⟨rfl, hw⟩
      have hw := hw.symm
      subst hw
      refine hK2.out _ _ trivial (fun _ => ?_)
      clear hK2 K2
      refine wpAnyH_take (i := 15) (v := .int .u16 (y : Int)) rfl (by kernel_rfl) (by kernel_rfl) (by kernel_rfl) (fun _ _ _ h => h) (Yields.yieldsIf (Or.inl ⟨by kernel_rfl, fun _ => by go_simp; rw [IntKind.wrap_u16]; omega⟩)) trivial ?_
      refine wpAnyH_ready (rs := [19]) (by kernel_rfl) (by simp) ?_
      refine AllReadyH.cons rfl (fun K2 hK2 => ?_) AllReadyH.nil
      refine step_append_run rfl (.tmp 29) (.tmp 31) 24 rfl _ _ rfl rfl _ _ happ ?_
      refine hK2.out _ _ trivial (fun _ => ?_)
      clear hK2 K2
      refine wpAnyH_take (i := 20) (v := .agg #[.int .u16 (s : Int), .int .u16 (t : Int), .int .u32 (f : Int), .int .u16 (y : Int), .slice (some ⟨g, 0, none⟩) (n - 10) cap]) rfl (by kernel_rfl) (by kernel_rfl) (by kernel_rfl) (fun _ _ _ h => h) (Yields.yieldsIf (Or.inl ⟨by kernel_rfl, fun _ => by kernel_rfl⟩)) trivial ?_
      refine wpAnyH_ready (rs := [21]) (by kernel_rfl) (by simp) ?_
      refine AllReadyH.cons rfl (fun K2 hK2 => ?_) AllReadyH.nil
      go_simp
      refine hK2.out _ _ trivial (fun _ => ?_)
      clear hK2 K2
      refine wpAnyH_take (i := 22) (v := .int .i64 0) rfl (by kernel_rfl) (by kernel_rfl) (by kernel_rfl) (fun _ _ _ h => h) (Yields.yieldsIf (Or.inl ⟨by kernel_rfl, fun _ => by kernel_rfl⟩)) trivial ?_
      refine wpAnyH_done (by kernel_rfl) ?_ _
      generalize (((((w4.setCell ⟨w.heap.size, 0, none⟩ (.int .u16 (s : Int))).setCell ⟨w.heap.size, 1, none⟩ (.int .u16 (t : Int))).setCell ⟨w.heap.size, 2, none⟩ (.int .u32 (f : Int))).setCell ⟨w.heap.size, 3, none⟩ (.int .u16 (y : Int))).setCell ⟨w.heap.size, 4, none⟩ (.slice (some ⟨g, 0, none⟩) (n - 10) cap)) = w5 at *
      clear z0 z1 z2 z3 z4 p0 p1 p2 p3 p4
      go_wp2
      refine bodyPost_ret (v := .tuple #[.agg #[.int .u16 (s : Int), .int .u16 (t : Int), .int .u32 (f : Int), .int .u16 (y : Int), .slice (some ⟨g, 0, none⟩) (n - 10) cap], .int .i64 0]) ?_ rfl HA.out
      simp [results, Try.results28, go_sem, q0, q1, q2, q3, q4]
  · go_simp
    refine hK2.out _ _ trivial (fun _ => ?_)
    clear hK2 K2
    refine wpAnyH_ready (rs := [2]) (by kernel_rfl) (by simp) ?_
    refine AllReadyH.cons rfl (fun K2 hK2 => ?_) AllReadyH.nil
    go_simp
    refine Calls.mono (Ns.out _ (X2.out.grew A3.out)) ?_
    rintro e w' ⟨rfl, hw⟩
    have hw := hw.symm
    subst hw
    refine hK2.out _ _ trivial (fun _ => ?_)
    clear hK2 K2
    refine wpAnyH_take (i := 3) (v := .int .u16 (s : Int)) rfl (by kernel_rfl) (by kernel_rfl) (by kernel_rfl) (fun _ _ _ h => h) (Yields.yieldsIf (Or.inl ⟨by kernel_rfl, fun _ => by go_simp; rw [IntKind.wrap_u16]; omega⟩)) trivial ?_
    refine wpAnyH_ready (rs := [6]) (by kernel_rfl) (by simp) ?_
    refine AllReadyH.cons rfl (fun K2 hK2 => ?_) AllReadyH.nil
    go_simp
    refine Calls.mono (Nt.out _ (X2.out.grew A3.out)) ?_
    rintro e w' ⟨rfl, hw⟩
    have hw := hw.symm
    subst hw
    refine hK2.out _ _ trivial (fun _ => ?_)
    clear hK2 K2
    refine wpAnyH_take (i := 7) (v := .int .u16 (t : Int)) rfl (by kernel_rfl) (by kernel_rfl) (by kernel_rfl) (fun _ _ _ h => h) (Yields.yieldsIf (Or.inl ⟨by kernel_rfl, fun _ => by go_simp; rw [IntKind.wrap_u16]; omega⟩)) trivial ?_
    refine wpAnyH_ready (rs := [10]) (by kernel_rfl) (by simp) ?_
    refine AllReadyH.cons rfl (fun K2 hK2 => ?_) AllReadyH.nil
    go_simp
    refine Calls.mono (Nf.out _ (X2.out.grew A3.out)) ?_
    rintro e w' ⟨rfl, hw⟩
    have hw := hw.symm
    subst hw
    refine hK2.out _ _ trivial (fun _ => ?_)
    clear hK2 K2
    refine wpAnyH_take (i := 11) (v := .int .u32 (f : Int)) rfl (by kernel_rfl) (by kernel_rfl) (by kernel_rfl) (fun _ _ _ h => h) (Yields.yieldsIf (Or.inl ⟨by kernel_rfl, fun _ => by go_simp; rw [IntKind.wrap_u32']; omega⟩)) trivial ?_
    refine wpAnyH_ready (rs := [14]) (by kernel_rfl) (by simp) ?_
    refine AllReadyH.cons rfl (fun K2 hK2 => ?_) AllReadyH.nil
    go_simp
    refine Calls.mono (Ny.out _ (X2.out.grew A3.out)) ?_
    rintro e w' ⟨rfl, hw⟩
    have hw := hw.symm
    subst hw
    refine hK2.out _ _ trivial (fun _ => ?_)
    clear hK2 K2
    refine wpAnyH_take (i := 15) (v := .int .u16 (y : Int)) rfl (by kernel_rfl) (by kernel_rfl) (by kernel_rfl) (fun _ _ _ h => h) (Yields.yieldsIf (Or.inl ⟨by kernel_rfl, fun _ => by go_simp; rw [IntKind.wrap_u16]; omega⟩)) trivial ?_
    refine wpAnyH_ready (rs := [19]) (by kernel_rfl) (by simp) ?_
    refine AllReadyH.cons rfl (fun K2 hK2 => ?_) AllReadyH.nil
    refine step_append_run rfl (.tmp 29) (.tmp 31) 24 rfl _ _ rfl rfl _ _ happ ?_
    refine hK2.out _ _ trivial (fun _ => ?_)
    clear hK2 K2
    refine wpAnyH_take (i := 20) (v := .agg #[.int .u16 (s : Int), .int .u16 (t : Int), .int .u32 (f : Int), .int .u16 (y : Int), .slice (some ⟨g, 0, none⟩) (n - 10) cap]) rfl (by kernel_rfl) (by kernel_rfl) (by kernel_rfl) (fun _ _ _ h => h) (Yields.yieldsIf (Or.inl ⟨by kernel_rfl, fun _ => by kernel_rfl⟩)) trivial ?_
    refine wpAnyH_ready (rs := [21]) (by kernel_rfl) (by simp) ?_
    refine AllReadyH.cons rfl (fun K2 hK2 => ?_) AllReadyH.nil
    go_simp
    refine hK2.out _ _ trivial (fun _ => ?_)
    clear hK2 K2
    refine wpAnyH_take (i := 22) (v := .int .i64 0) rfl (by kernel_rfl) (by kernel_rfl) (by kernel_rfl) (fun _ _ _ h => h) (Yields.yieldsIf (Or.inl ⟨by kernel_rfl, fun _ => by kernel_rfl⟩)) trivial ?_
    refine wpAnyH_done (by kernel_rfl) ?_ _
    generalize (((((w4.setCell ⟨w.heap.size, 0, none⟩ (.int .u16 (s : Int))).setCell ⟨w.heap.size, 1, none⟩ (.int .u16 (t : Int))).setCell ⟨w.heap.size, 2, none⟩ (.int .u32 (f : Int))).setCell ⟨w.heap.size, 3, none⟩ (.int .u16 (y : Int))).setCell ⟨w.heap.size, 4, none⟩ (.slice (some ⟨g, 0, none⟩) (n - 10) cap)) = w5 at *
    clear z0 z1 z2 z3 z4 p0 p1 p2 p3 p4
    go_wp2
    refine bodyPost_ret (v := .tuple #[.agg #[.int .u16 (s : Int), .int .u16 (t : Int), .int .u32 (f : Int), .int .u16 (y : Int), .slice (some ⟨g, 0, none⟩) (n - 10) cap], .int .i64 0]) ?_ rfl HA.out
    simp [results, Try.results28, go_sem, q0, q1, q2, q3, q4]

theorem rtake_any (a : Option Addr) (n c : Nat) (x : Nat → Nat) (w : World) (hx : BytesAt w a n x) (hc : n ≤ c) :
    Calls Try.prog 28 #[.slice a n c] w fun e w' => TakeIs w n x e w' := by
  by_cases h : 11 ≤ n ∧ n ≤ 74
  · exact rtake_yes a n c x w hx hc h.1 h.2
  · exact rtake_no a n c x w h
end Go.Proofs.Ytcflaklnafggmaa

/-
  What package back puts it takes as it was, and bytes of the right lengths are taken and put as those bytes: the call returns true, whatever the report, the frame, the need and the twenty bytes are (no condition).
-/
import Derived.Test.YtmckfcbhkahcmaaRows
import Derived.WalkKit
import Derived.ProofKit
import Derived.OpenShut
import Derived.ShutString
import Derived.ChangeOld
import Derived.Below
import Derived.Carry
import Derived.Test.YtmckfcbhkahcmaaOpn
import Derived.Test.YtmckfcbhkahcmaaOpr
import Derived.Test.YtmckfcbhkahcmaaBkg
namespace Go.Proofs.Ytmckfcbhkahcmaa.backBack
open Go.ChangeShapes Go.WideShapes Go.ChangeAt Go.RowKit
open Go.ChangeMaps (open_string shut_string)
set_option linter.unusedVariables false

theorem own : ownKnob Try.prog.godebug = none := by kernel_rfl
theorem laidOut : laidOutB Try.prog = true := by kernel_rfl

open Go.Deep

/-- What stands as it is while the last line is worked out. -/
structure HeldB (B G G2 t l g u j t' l' g' u' j' : Nat) (x : Nat → Nat) (w : World) : Prop where
  d : RepAt w B t l g u j
  e : RepAt w G t l g u j
  f : RepAt w G2 t' l' g' u' j'
  x : BytesAt w (some ⟨B + 1, 0, none⟩) 20 x
theorem HeldB.grew {B G G2 t l g u j t' l' g' u' j' : Nat} {x : Nat → Nat} {w w' : World} (h : HeldB B G G2 t l g u j t' l' g' u' j' x w) (hb : Below w.heap.size w w') : HeldB B G G2 t l g u j t' l' g' u' j' x w' :=
  ⟨h.d.grew hb, h.e.grew hb, h.f.grew hb, h.x.grew hb⟩

set_option maxRecDepth 100000 in
set_option maxHeartbeats 2000000 in
theorem core (t l g u j f k : Nat) (c : Array Value) (x : Nat → Nat) (w : World) (lt : t < 18446744073709551616) (ll : l < 4294967296) (lg : g < 4294967296) (lu : u < 65536) (lj : j < 65536) (lf : f < 4294967296) (lk : k < 65536) (hc : ∀ i, i < 20 → c[i]? = some (.int .u8 (x i : Int)) ∧ x i < 256) :
    Calls Try.prog 4 #[.agg #[.int .u64 (t : Int), .int .u32 (l : Int), .int .u32 (g : Int), .int .u16 (u : Int), .int .u16 (j : Int)], .int .u32 (f : Int), .int .u16 (k : Int), .agg c] w fun e w' => e = .returned (.bool true) ∧ Below w.heap.size w w' := by
  have b0 : Below w.heap.size w (w.alloc (.cells #[.int .u64 (t : Int), .int .u32 (l : Int), .int .u32 (g : Int), .int .u16 (u : Int), .int .u16 (j : Int)] 26)) := (Below.refl _ _).alloc (Nat.le_refl _) _
  have a1 : Below _ (w.alloc (.cells #[.int .u64 (t : Int), .int .u32 (l : Int), .int .u32 (g : Int), .int .u16 (u : Int), .int .u16 (j : Int)] 26)) ((w.alloc (.cells #[.int .u64 (t : Int), .int .u32 (l : Int), .int .u32 (g : Int), .int .u16 (u : Int), .int .u16 (j : Int)] 26)).alloc (.cells c 43)) := (Below.refl _ _).alloc (Nat.le_refl _) _
  have D1 := (RepAt.made w 26 t l g u j).grew a1
  have b1 : Below w.heap.size w ((w.alloc (.cells #[.int .u64 (t : Int), .int .u32 (l : Int), .int .u32 (g : Int), .int .u16 (u : Int), .int .u16 (j : Int)] 26)).alloc (.cells c 43)) := b0.trans (a1.mono b0.size)
  have X1 : BytesAt ((w.alloc (.cells #[.int .u64 (t : Int), .int .u32 (l : Int), .int .u32 (g : Int), .int .u16 (u : Int), .int .u16 (j : Int)] 26)).alloc (.cells c 43)) (some ⟨w.heap.size + 1, 0, none⟩) 20 x := ⟨fun _ => ⟨_, 0, rfl, fun i hi => by rw [Nat.zero_add, World.cell?_alloc_at _ _ _ _ (by simp)]; exact (hc i hi).1⟩, fun i hi => (hc i hi).2⟩
  have lx : Hid (∀ i, i < 20 → x i < 256) := fun i hi => (hc i hi).2
  clear b0 a1 hc
  go_enter Try.func4, Try.ntmps4
  go_wp2_with fail
  generalize ((w.alloc (.cells #[.int .u64 (t : Int), .int .u32 (l : Int), .int .u32 (g : Int), .int .u16 (u : Int), .int .u16 (j : Int)] 26)).alloc (.cells c 43)) = w1 at *
  refine (begun10 _).mono ?_
  rintro e w2 ⟨rfl, d2⟩
  have D2 := D1.grew d2
  have X2 := X1.grew d2
  have b2 := b1.trans (d2.mono b1.size)
  have p0 := D2.c0
  have p1 := D2.c1
  have p2 := D2.c2
  have p3 := D2.c3
  have p4 := D2.c4
  clear D1 X1 b1 d2
  go_wp2_with fail
  clear p0 p1 p2 p3 p4
  refine (kputr_any t l g u j w2 lt ll lg lu lj).mono ?_
  rintro e w3 ⟨r3, c3, rfl, -, hc3, B3, d3⟩
  have D3 := D2.grew d3
  have X3 := X2.grew d3
  have b3 := b2.trans (d3.mono b2.size)
  clear D2 X2 b2 d3
  go_wp2_with fail
  refine (ktaker_any _ 20 c3 _ w3 B3 hc3).mono ?_
  intro e w4 h4
  obtain ⟨rfl, d4⟩ := h4.ofPut lt ll lg lu lj
  have D4 := D3.grew d4
  have X4 := X3.grew d4
  have b4 := b3.trans (d4.mono b3.size)
  have a5 : Below w4.heap.size w4 (w4.alloc (.cells #[.int .u64 (t : Int), .int .u32 (l : Int), .int .u32 (g : Int), .int .u16 (u : Int), .int .u16 (j : Int)] 26)) := (Below.refl _ _).alloc (Nat.le_refl _) _
  have E5 := RepAt.made w4 26 t l g u j
  have D5 := D4.grew a5
  have X5 := X4.grew a5
  have b5 := b4.trans (a5.mono b4.size)
  clear D3 X3 b3 d4 D4 X4 b4 a5 h4 B3 hc3
  go_wp2_with fail
  generalize (w4.alloc (.cells #[.int .u64 (t : Int), .int .u32 (l : Int), .int .u32 (g : Int), .int .u16 (u : Int), .int .u16 (j : Int)] 26)) = w5 at *
  generalize w4.heap.size = G at *
  refine (kputn_any f k w5 lf lk).mono ?_
  rintro e w6 ⟨r6, c6, rfl, -, hc6, B6, d6⟩
  have D6 := D5.grew d6
  have X6 := X5.grew d6
  have E6 := E5.grew d6
  have b6 := b5.trans (d6.mono b5.size)
  clear D5 X5 E5 b5 d6
  go_wp2_with fail
  refine (ktaken_any _ 6 c6 _ w6 B6 hc6).mono ?_
  intro e w7 h7
  obtain ⟨rfl, d7⟩ := h7.ofPut lf lk
  have D7 := D6.grew d7
  have X7 := X6.grew d7
  have E7 := E6.grew d7
  have b7 := b6.trans (d7.mono b6.size)
  clear D6 X6 E6 b6 d7 h7 B6 hc6
  go_wp2_with fail
  refine (kputg_any f w7 lf).mono ?_
  rintro e w8 ⟨r8, c8, rfl, -, hc8, B8, d8⟩
  have D8 := D7.grew d8
  have X8 := X7.grew d8
  have E8 := E7.grew d8
  have b8 := b7.trans (d8.mono b7.size)
  clear D7 X7 E7 b7 d8
  go_wp2_with fail
  refine (ktakeg_any _ 4 c8 _ w8 B8 hc8).mono ?_
  intro e w9 h9
  obtain ⟨rfl, d9⟩ := h9.ofPut lf
  have D9 := D8.grew d9
  have X9 := X8.grew d9
  have E9 := E8.grew d9
  have b9 := b8.trans (d9.mono b8.size)
  clear D8 X8 E8 b8 d9 h9 B8 hc8
  go_wp2_with fail
  refine (ktaker_any (some ⟨w.heap.size + 1, 0, none⟩) 20 20 _ w9 X9 (Nat.le_refl _)).mono ?_
  intro e w10 h10
  have h10 := h10.some
  obtain ⟨t', ht'⟩ : ∃ t', t' = Crc.numTo x 8 := ⟨_, rfl⟩
  obtain ⟨l', hl'⟩ : ∃ l', l' = Crc.numTo (fun i => x (8 + i)) 4 := ⟨_, rfl⟩
  obtain ⟨g', hg'⟩ : ∃ g', g' = Crc.numTo (fun i => x (12 + i)) 4 := ⟨_, rfl⟩
  obtain ⟨u', hu'⟩ : ∃ u', u' = Crc.numTo (fun i => x (16 + i)) 2 := ⟨_, rfl⟩
  obtain ⟨j', hj'⟩ : ∃ j', j' = Crc.numTo (fun i => x (18 + i)) 2 := ⟨_, rfl⟩
  rw [← ht', ← hl', ← hg', ← hu', ← hj'] at h10
  have lt' : t' < 18446744073709551616 := by rw [ht']; exact Crc.numTo_lt 8 fun i hi => lx.out _ (by omega)
  have ll' : l' < 4294967296 := by rw [hl']; exact Crc.numTo_lt 4 fun i hi => lx.out _ (by omega)
  have lg' : g' < 4294967296 := by rw [hg']; exact Crc.numTo_lt 4 fun i hi => lx.out _ (by omega)
  have lu' : u' < 65536 := by rw [hu']; exact Crc.numTo_lt 2 fun i hi => lx.out _ (by omega)
  have lj' : j' < 65536 := by rw [hj']; exact Crc.numTo_lt 2 fun i hi => lx.out _ (by omega)
  have HR : Hid (strOf 20 (repLaid t' l' g' u' j') = strOf 20 x) := by
    show _ = _
    rw [ht', hl', hg', hu', hj']
    exact strOf_congr fun i hi => repLaid_taken lx.out i hi
  clear ht' hl' hg' hu' hj'
  obtain ⟨rfl, d10⟩ := h10
  have D10 := D9.grew d10
  have X10 := X9.grew d10
  have E10 := E9.grew d10
  have b10 := b9.trans (d10.mono b9.size)
  have a11 : Below w10.heap.size w10 (w10.alloc (.cells #[.int .u64 (t' : Int), .int .u32 (l' : Int), .int .u32 (g' : Int), .int .u16 (u' : Int), .int .u16 (j' : Int)] 26)) := (Below.refl _ _).alloc (Nat.le_refl _) _
  have F11 := RepAt.made w10 26 t' l' g' u' j'
  have D11 := D10.grew a11
  have X11 := X10.grew a11
  have E11 := E10.grew a11
  have b11 := b10.trans (a11.mono b10.size)
  clear D9 X9 E9 b9 d10 D10 X10 E10 b10 a11
  go_wp2_with fail
  generalize (w10.alloc (.cells #[.int .u64 (t' : Int), .int .u32 (l' : Int), .int .u32 (g' : Int), .int .u16 (u' : Int), .int .u16 (j' : Int)] 26)) = w11 at *
  generalize w10.heap.size = G2 at *
  refine (ktaken_any (some ⟨w.heap.size + 1, 0, none⟩) 6 20 _ w11 (X11.take (by decide)) (by decide)).mono ?_
  intro e w12 h12
  have h12 := h12.some
  obtain ⟨f', hf'⟩ : ∃ f', f' = Crc.numTo x 4 := ⟨_, rfl⟩
  obtain ⟨k', hk'⟩ : ∃ k', k' = Crc.numTo (fun i => x (4 + i)) 2 := ⟨_, rfl⟩
  rw [← hf', ← hk'] at h12
  have lf' : f' < 4294967296 := by rw [hf']; exact Crc.numTo_lt 4 fun i hi => lx.out _ (by omega)
  have lk' : k' < 65536 := by rw [hk']; exact Crc.numTo_lt 2 fun i hi => lx.out _ (by omega)
  have HN : Hid (strOf 6 (nackLaid f' k') = strOf 6 x) := by
    show _ = _
    rw [hf', hk']
    exact strOf_congr fun i hi => nackLaid_taken (fun i hi => lx.out i (by omega)) i hi
  have HG : Hid (strOf 4 (goneLaid f') = strOf 4 x) := by
    show _ = _
    rw [hf']
    exact strOf_congr fun i hi => goneLaid_taken (fun i hi => lx.out i (by omega)) i hi
  have HF : Hid (f' = Crc.numTo x 4) := hf'
  clear hf' hk'
  obtain ⟨rfl, d12⟩ := h12
  have D12 := D11.grew d12
  have X12 := X11.grew d12
  have E12 := E11.grew d12
  have F12 := F11.grew d12
  have b12 := b11.trans (d12.mono b11.size)
  clear D11 X11 E11 F11 b11 d12
  go_wp2_with fail
  refine (ktakeg_any (some ⟨w.heap.size + 1, 0, none⟩) 4 20 _ w12 (X12.take (by decide)) (by decide)).mono ?_
  intro e w13 h13
  have h13 := h13.some
  rw [← HF.out] at h13
  obtain ⟨rfl, d13⟩ := h13
  have D13 := D12.grew d13
  have X13 := X12.grew d13
  have E13 := E12.grew d13
  have F13 := F12.grew d13
  have b13 := b12.trans (d13.mono b12.size)
  clear D12 X12 E12 F12 b12 d13 HF lx
  -- the last region, by backback.py
  go_wp2_with fail
  simp only [List.append]
  have hr : HeldB w.heap.size G G2 t l g u j t' l' g' u' j' x w13 := ⟨D13, E13, F13, X13⟩
  have b13 : Hid (Below w.heap.size w w13) := b13
  clear D13 E13 F13 X13
  refine wp_region_held (S := HeldB w.heap.size G G2 t l g u j t' l' g' u' j' x) (by kernel_rfl) ?_
  change wpAnyH _ _ _ _ _ _ _ _ w13.drew
  have hr : HeldB w.heap.size G G2 t l g u j t' l' g' u' j' x w13.drew := hr.grew (Below.refl _ _).drew
  have b13 : Hid (Below w.heap.size w w13.drew) := b13.out.drew
  generalize w13.drew = w13 at *
  refine wpAnyH_take (i := 0) (v := .int .i64 0) rfl (by kernel_rfl) (by kernel_rfl) (by kernel_rfl) (fun _ _ _ h => h) (Yields.yieldsIf (Or.inl ⟨by kernel_rfl, fun _ => by kernel_rfl⟩)) hr ?_
  refine wpAnyH_take (i := 1) (v := .bool true) rfl (by kernel_rfl) (by kernel_rfl) (by kernel_rfl) (fun _ _ _ h => h) (Yields.yieldsIf (Or.inl ⟨by kernel_rfl, fun _ => by go_simp⟩)) hr ?_
  refine wpAnyH_take (i := 2) (v := .bool true) rfl (by kernel_rfl) (by kernel_rfl) (by kernel_rfl) (fun _ _ _ h => h) (Yields.yieldsIf (Or.inl ⟨by kernel_rfl, fun _ => by kernel_rfl⟩)) hr ?_
  refine wpAnyH_take (i := 3) (v := .agg #[.int .u64 (t : Int), .int .u32 (l : Int), .int .u32 (g : Int), .int .u16 (u : Int), .int .u16 (j : Int)]) rfl (by kernel_rfl) (by kernel_rfl) (by kernel_rfl) (fun _ _ _ h => h) (Or.inl ⟨by kernel_rfl, fun W hW => by have g0 := hW.e.c0; have g1 := hW.e.c1; have g2 := hW.e.c2; have g3 := hW.e.c3; have g4 := hW.e.c4; go_simp⟩) hr ?_
  refine wpAnyH_take (i := 4) (v := .agg #[.int .u64 (t : Int), .int .u32 (l : Int), .int .u32 (g : Int), .int .u16 (u : Int), .int .u16 (j : Int)]) rfl (by kernel_rfl) (by kernel_rfl) (by kernel_rfl) (fun _ _ _ h => h) (Or.inl ⟨by kernel_rfl, fun W hW => by have g0 := hW.d.c0; have g1 := hW.d.c1; have g2 := hW.d.c2; have g3 := hW.d.c3; have g4 := hW.d.c4; go_simp⟩) hr ?_
  refine wpAnyH_take (i := 5) (v := .bool true) rfl (by kernel_rfl) (by kernel_rfl) (by kernel_rfl) (fun _ _ _ h => h) (Yields.yieldsIf (Or.inl ⟨by kernel_rfl, fun _ => by go_simp⟩)) hr ?_
  refine wpAnyH_take (i := 6) (v := .bool true) rfl (by kernel_rfl) (by kernel_rfl) (by kernel_rfl) (fun _ _ _ h => h) (Yields.yieldsIf (Or.inl ⟨by kernel_rfl, fun _ => by kernel_rfl⟩)) hr ?_
  refine wpAnyH_take (i := 7) (v := .bool true) rfl (by kernel_rfl) (by kernel_rfl) (by kernel_rfl) (fun _ _ _ h => h) (Yields.yieldsIf (Or.inl ⟨by kernel_rfl, fun _ => by kernel_rfl⟩)) hr ?_
  refine wpAnyH_take (i := 8) (v := .int .i64 0) rfl (by kernel_rfl) (by kernel_rfl) (by kernel_rfl) (fun _ _ _ h => h) (Yields.yieldsIf (Or.inl ⟨by kernel_rfl, fun _ => by kernel_rfl⟩)) hr ?_
  refine wpAnyH_take (i := 9) (v := .bool true) rfl (by kernel_rfl) (by kernel_rfl) (by kernel_rfl) (fun _ _ _ h => h) (Yields.yieldsIf (Or.inl ⟨by kernel_rfl, fun _ => by go_simp⟩)) hr ?_
  refine wpAnyH_take (i := 10) (v := .bool true) rfl (by kernel_rfl) (by kernel_rfl) (by kernel_rfl) (fun _ _ _ h => h) (Yields.yieldsIf (Or.inl ⟨by kernel_rfl, fun _ => by kernel_rfl⟩)) hr ?_
  refine wpAnyH_take (i := 11) (v := .bool true) rfl (by kernel_rfl) (by kernel_rfl) (by kernel_rfl) (fun _ _ _ h => h) (Yields.yieldsIf (Or.inl ⟨by kernel_rfl, fun _ => by kernel_rfl⟩)) hr ?_
  refine wpAnyH_take (i := 12) (v := .int .u32 (f : Int)) rfl (by kernel_rfl) (by kernel_rfl) (by kernel_rfl) (fun _ _ _ h => h) (Yields.yieldsIf (Or.inl ⟨by kernel_rfl, fun _ => by kernel_rfl⟩)) hr ?_
  refine wpAnyH_take (i := 13) (v := .int .u32 (f : Int)) rfl (by kernel_rfl) (by kernel_rfl) (by kernel_rfl) (fun _ _ _ h => h) (Yields.yieldsIf (Or.inl ⟨by kernel_rfl, fun _ => by kernel_rfl⟩)) hr ?_
  refine wpAnyH_take (i := 14) (v := .bool true) rfl (by kernel_rfl) (by kernel_rfl) (by kernel_rfl) (fun _ _ _ h => h) (Yields.yieldsIf (Or.inl ⟨by kernel_rfl, fun _ => by go_simp⟩)) hr ?_
  refine wpAnyH_take (i := 15) (v := .bool true) rfl (by kernel_rfl) (by kernel_rfl) (by kernel_rfl) (fun _ _ _ h => h) (Yields.yieldsIf (Or.inl ⟨by kernel_rfl, fun _ => by kernel_rfl⟩)) hr ?_
  refine wpAnyH_take (i := 16) (v := .bool true) rfl (by kernel_rfl) (by kernel_rfl) (by kernel_rfl) (fun _ _ _ h => h) (Yields.yieldsIf (Or.inl ⟨by kernel_rfl, fun _ => by kernel_rfl⟩)) hr ?_
  refine wpAnyH_take (i := 17) (v := .int .u16 (k : Int)) rfl (by kernel_rfl) (by kernel_rfl) (by kernel_rfl) (fun _ _ _ h => h) (Yields.yieldsIf (Or.inl ⟨by kernel_rfl, fun _ => by kernel_rfl⟩)) hr ?_
  refine wpAnyH_take (i := 18) (v := .int .u16 (k : Int)) rfl (by kernel_rfl) (by kernel_rfl) (by kernel_rfl) (fun _ _ _ h => h) (Yields.yieldsIf (Or.inl ⟨by kernel_rfl, fun _ => by kernel_rfl⟩)) hr ?_
  refine wpAnyH_take (i := 19) (v := .bool true) rfl (by kernel_rfl) (by kernel_rfl) (by kernel_rfl) (fun _ _ _ h => h) (Yields.yieldsIf (Or.inl ⟨by kernel_rfl, fun _ => by go_simp⟩)) hr ?_
  refine wpAnyH_take (i := 20) (v := .bool true) rfl (by kernel_rfl) (by kernel_rfl) (by kernel_rfl) (fun _ _ _ h => h) (Yields.yieldsIf (Or.inl ⟨by kernel_rfl, fun _ => by kernel_rfl⟩)) hr ?_
  refine wpAnyH_take (i := 21) (v := .bool true) rfl (by kernel_rfl) (by kernel_rfl) (by kernel_rfl) (fun _ _ _ h => h) (Yields.yieldsIf (Or.inl ⟨by kernel_rfl, fun _ => by kernel_rfl⟩)) hr ?_
  refine wpAnyH_take (i := 22) (v := .int .i64 0) rfl (by kernel_rfl) (by kernel_rfl) (by kernel_rfl) (fun _ _ _ h => h) (Yields.yieldsIf (Or.inl ⟨by kernel_rfl, fun _ => by kernel_rfl⟩)) hr ?_
  refine wpAnyH_take (i := 23) (v := .bool true) rfl (by kernel_rfl) (by kernel_rfl) (by kernel_rfl) (fun _ _ _ h => h) (Yields.yieldsIf (Or.inl ⟨by kernel_rfl, fun _ => by go_simp⟩)) hr ?_
  refine wpAnyH_take (i := 24) (v := .bool true) rfl (by kernel_rfl) (by kernel_rfl) (by kernel_rfl) (fun _ _ _ h => h) (Yields.yieldsIf (Or.inl ⟨by kernel_rfl, fun _ => by kernel_rfl⟩)) hr ?_
  refine wpAnyH_take (i := 25) (v := .bool true) rfl (by kernel_rfl) (by kernel_rfl) (by kernel_rfl) (fun _ _ _ h => h) (Yields.yieldsIf (Or.inl ⟨by kernel_rfl, fun _ => by kernel_rfl⟩)) hr ?_
  refine wpAnyH_take (i := 26) (v := .int .u32 (f : Int)) rfl (by kernel_rfl) (by kernel_rfl) (by kernel_rfl) (fun _ _ _ h => h) (Yields.yieldsIf (Or.inl ⟨by kernel_rfl, fun _ => by kernel_rfl⟩)) hr ?_
  refine wpAnyH_take (i := 27) (v := .int .u32 (f : Int)) rfl (by kernel_rfl) (by kernel_rfl) (by kernel_rfl) (fun _ _ _ h => h) (Yields.yieldsIf (Or.inl ⟨by kernel_rfl, fun _ => by kernel_rfl⟩)) hr ?_
  refine wpAnyH_take (i := 28) (v := .bool true) rfl (by kernel_rfl) (by kernel_rfl) (by kernel_rfl) (fun _ _ _ h => h) (Yields.yieldsIf (Or.inl ⟨by kernel_rfl, fun _ => by go_simp⟩)) hr ?_
  refine wpAnyH_take (i := 29) (v := .bool true) rfl (by kernel_rfl) (by kernel_rfl) (by kernel_rfl) (fun _ _ _ h => h) (Yields.yieldsIf (Or.inl ⟨by kernel_rfl, fun _ => by kernel_rfl⟩)) hr ?_
  refine wpAnyH_take (i := 30) (v := .bool true) rfl (by kernel_rfl) (by kernel_rfl) (by kernel_rfl) (fun _ _ _ h => h) (Yields.yieldsIf (Or.inl ⟨by kernel_rfl, fun _ => by kernel_rfl⟩)) hr ?_
  refine wpAnyH_take (i := 31) (v := .int .i64 0) rfl (by kernel_rfl) (by kernel_rfl) (by kernel_rfl) (fun _ _ _ h => h) (Yields.yieldsIf (Or.inl ⟨by kernel_rfl, fun _ => by kernel_rfl⟩)) hr ?_
  refine wpAnyH_take (i := 32) (v := .bool true) rfl (by kernel_rfl) (by kernel_rfl) (by kernel_rfl) (fun _ _ _ h => h) (Yields.yieldsIf (Or.inl ⟨by kernel_rfl, fun _ => by go_simp⟩)) hr ?_
  refine wpAnyH_take (i := 33) (v := .bool true) rfl (by kernel_rfl) (by kernel_rfl) (by kernel_rfl) (fun _ _ _ h => h) (Yields.yieldsIf (Or.inl ⟨by kernel_rfl, fun _ => by kernel_rfl⟩)) hr ?_
  refine wpAnyH_take (i := 34) (v := .bool true) rfl (by kernel_rfl) (by kernel_rfl) (by kernel_rfl) (fun _ _ _ h => h) (Yields.yieldsIf (Or.inl ⟨by kernel_rfl, fun _ => by kernel_rfl⟩)) hr ?_
  refine wpAnyH_take (i := 35) (v := .agg #[.int .u64 (t' : Int), .int .u32 (l' : Int), .int .u32 (g' : Int), .int .u16 (u' : Int), .int .u16 (j' : Int)]) rfl (by kernel_rfl) (by kernel_rfl) (by kernel_rfl) (fun _ _ _ h => h) (Or.inl ⟨by kernel_rfl, fun W hW => by have g0 := hW.f.c0; have g1 := hW.f.c1; have g2 := hW.f.c2; have g3 := hW.f.c3; have g4 := hW.f.c4; go_simp⟩) hr ?_
  refine wpAnyH_take (i := 38) (v := .slice (some ⟨w.heap.size + 1, 0, none⟩) 20 20) rfl (by kernel_rfl) (by kernel_rfl) (by kernel_rfl) (fun _ _ _ h => h) (Yields.yieldsIf (Or.inl ⟨by kernel_rfl, fun _ => by go_simp⟩)) hr ?_
  refine wpAnyH_take (i := 39) (v := .string (strOf 20 x)) rfl (by kernel_rfl) (by kernel_rfl) (by kernel_rfl) (fun _ _ _ h => h) (Or.inl ⟨by kernel_rfl, fun W hW => by have g := conv_bytes _ 20 20 _ W hW.x; go_simp⟩) hr ?_
  refine wpAnyH_ready (rs := [36]) (by kernel_rfl) (by simp) ?_
  refine AllReadyH.cons rfl (fun K2 hK2 => ?_) AllReadyH.nil
  go_simp
  refine Calls.mono (kputr_any t' l' g' u' j' w13 lt' ll' lg' lu' lj') ?_
  rintro e w14 ⟨r14, c14, rfl, -, -, B14, d14⟩
  have b14 : Hid (Below w.heap.size w w14) := b13.out.trans (d14.mono b13.out.size)
  have hr := hr.grew d14
  refine hK2.out _ _ hr (fun hr => ?_)
  clear hK2 K2
  refine wpAnyH_mono (S' := fun w' => HeldB w.heap.size G G2 t l g u j t' l' g' u' j' x w' ∧ BytesAt w' (some ⟨r14, 0, none⟩) 20 (repLaid t' l' g' u' j')) (fun _ h => h.1) _ _ _ _ ?_
  have hr : HeldB w.heap.size G G2 t l g u j t' l' g' u' j' x w14 ∧ BytesAt w14 (some ⟨r14, 0, none⟩) 20 (repLaid t' l' g' u' j') := ⟨hr, B14⟩
  clear B14 d14 b13
  refine wpAnyH_take (i := 37) (v := .string (strOf 20 x)) rfl (by kernel_rfl) (by kernel_rfl) (by kernel_rfl) (fun _ _ _ h => h) (Or.inl ⟨by kernel_rfl, fun W hW => by have g := conv_bytes _ 20 c14 _ W hW.2; rw [HR.out] at g; go_simp⟩) hr ?_
  refine wpAnyH_take (i := 40) (v := .bool true) rfl (by kernel_rfl) (by kernel_rfl) (by kernel_rfl) (fun _ _ _ h => h) (Yields.yieldsIf (Or.inl ⟨by kernel_rfl, fun _ => by go_simp⟩)) hr ?_
  refine wpAnyH_take (i := 41) (v := .bool true) rfl (by kernel_rfl) (by kernel_rfl) (by kernel_rfl) (fun _ _ _ h => h) (Yields.yieldsIf (Or.inl ⟨by kernel_rfl, fun _ => by kernel_rfl⟩)) hr ?_
  refine wpAnyH_take (i := 42) (v := .bool true) rfl (by kernel_rfl) (by kernel_rfl) (by kernel_rfl) (fun _ _ _ h => h) (Yields.yieldsIf (Or.inl ⟨by kernel_rfl, fun _ => by kernel_rfl⟩)) hr ?_
  refine wpAnyH_take (i := 43) (v := .int .i64 0) rfl (by kernel_rfl) (by kernel_rfl) (by kernel_rfl) (fun _ _ _ h => h) (Yields.yieldsIf (Or.inl ⟨by kernel_rfl, fun _ => by kernel_rfl⟩)) hr ?_
  refine wpAnyH_take (i := 44) (v := .bool true) rfl (by kernel_rfl) (by kernel_rfl) (by kernel_rfl) (fun _ _ _ h => h) (Yields.yieldsIf (Or.inl ⟨by kernel_rfl, fun _ => by go_simp⟩)) hr ?_
  refine wpAnyH_take (i := 45) (v := .bool true) rfl (by kernel_rfl) (by kernel_rfl) (by kernel_rfl) (fun _ _ _ h => h) (Yields.yieldsIf (Or.inl ⟨by kernel_rfl, fun _ => by kernel_rfl⟩)) hr ?_
  refine wpAnyH_take (i := 46) (v := .bool true) rfl (by kernel_rfl) (by kernel_rfl) (by kernel_rfl) (fun _ _ _ h => h) (Yields.yieldsIf (Or.inl ⟨by kernel_rfl, fun _ => by kernel_rfl⟩)) hr ?_
  refine wpAnyH_take (i := 47) (v := .int .u32 (f' : Int)) rfl (by kernel_rfl) (by kernel_rfl) (by kernel_rfl) (fun _ _ _ h => h) (Yields.yieldsIf (Or.inl ⟨by kernel_rfl, fun _ => by kernel_rfl⟩)) hr ?_
  refine wpAnyH_take (i := 48) (v := .int .u16 (k' : Int)) rfl (by kernel_rfl) (by kernel_rfl) (by kernel_rfl) (fun _ _ _ h => h) (Yields.yieldsIf (Or.inl ⟨by kernel_rfl, fun _ => by kernel_rfl⟩)) hr ?_
  refine wpAnyH_take (i := 51) (v := .slice (some ⟨w.heap.size + 1, 0, none⟩) 6 20) rfl (by kernel_rfl) (by kernel_rfl) (by kernel_rfl) (fun _ _ _ h => h) (Yields.yieldsIf (Or.inl ⟨by kernel_rfl, fun _ => by go_simp⟩)) hr ?_
  refine wpAnyH_take (i := 52) (v := .string (strOf 6 x)) rfl (by kernel_rfl) (by kernel_rfl) (by kernel_rfl) (fun _ _ _ h => h) (Or.inl ⟨by kernel_rfl, fun W hW => by have g := conv_bytes _ 6 20 _ W (hW.1.x.take (by decide)); go_simp⟩) hr ?_
  refine wpAnyH_ready (rs := [49]) (by kernel_rfl) (by simp) ?_
  refine AllReadyH.cons rfl (fun K2 hK2 => ?_) AllReadyH.nil
  go_simp
  refine Calls.mono (kputn_any f' k' w14 lf' lk') ?_
  rintro e w15 ⟨r15, c15, rfl, -, -, B15, d15⟩
  have b15 : Hid (Below w.heap.size w w15) := b14.out.trans (d15.mono b14.out.size)
  have hr : (HeldB w.heap.size G G2 t l g u j t' l' g' u' j' x w15 ∧ BytesAt w15 (some ⟨r14, 0, none⟩) 20 (repLaid t' l' g' u' j')) := ⟨hr.1.grew d15, hr.2.grew d15⟩
  refine hK2.out _ _ hr (fun hr => ?_)
  clear hK2 K2
  refine wpAnyH_mono (S' := fun w' => (HeldB w.heap.size G G2 t l g u j t' l' g' u' j' x w' ∧ BytesAt w' (some ⟨r14, 0, none⟩) 20 (repLaid t' l' g' u' j')) ∧ BytesAt w' (some ⟨r15, 0, none⟩) 6 (nackLaid f' k')) (fun _ h => h.1) _ _ _ _ ?_
  have hr : (HeldB w.heap.size G G2 t l g u j t' l' g' u' j' x w15 ∧ BytesAt w15 (some ⟨r14, 0, none⟩) 20 (repLaid t' l' g' u' j')) ∧ BytesAt w15 (some ⟨r15, 0, none⟩) 6 (nackLaid f' k') := ⟨hr, B15⟩
  clear B15 d15 b14
  refine wpAnyH_take (i := 50) (v := .string (strOf 6 x)) rfl (by kernel_rfl) (by kernel_rfl) (by kernel_rfl) (fun _ _ _ h => h) (Or.inl ⟨by kernel_rfl, fun W hW => by have g := conv_bytes _ 6 c15 _ W hW.2; rw [HN.out] at g; go_simp⟩) hr ?_
  refine wpAnyH_take (i := 53) (v := .bool true) rfl (by kernel_rfl) (by kernel_rfl) (by kernel_rfl) (fun _ _ _ h => h) (Yields.yieldsIf (Or.inl ⟨by kernel_rfl, fun _ => by go_simp⟩)) hr ?_
  refine wpAnyH_take (i := 54) (v := .bool true) rfl (by kernel_rfl) (by kernel_rfl) (by kernel_rfl) (fun _ _ _ h => h) (Yields.yieldsIf (Or.inl ⟨by kernel_rfl, fun _ => by kernel_rfl⟩)) hr ?_
  refine wpAnyH_take (i := 55) (v := .bool true) rfl (by kernel_rfl) (by kernel_rfl) (by kernel_rfl) (fun _ _ _ h => h) (Yields.yieldsIf (Or.inl ⟨by kernel_rfl, fun _ => by kernel_rfl⟩)) hr ?_
  refine wpAnyH_take (i := 56) (v := .int .i64 0) rfl (by kernel_rfl) (by kernel_rfl) (by kernel_rfl) (fun _ _ _ h => h) (Yields.yieldsIf (Or.inl ⟨by kernel_rfl, fun _ => by kernel_rfl⟩)) hr ?_
  refine wpAnyH_take (i := 57) (v := .bool true) rfl (by kernel_rfl) (by kernel_rfl) (by kernel_rfl) (fun _ _ _ h => h) (Yields.yieldsIf (Or.inl ⟨by kernel_rfl, fun _ => by go_simp⟩)) hr ?_
  refine wpAnyH_take (i := 58) (v := .bool true) rfl (by kernel_rfl) (by kernel_rfl) (by kernel_rfl) (fun _ _ _ h => h) (Yields.yieldsIf (Or.inl ⟨by kernel_rfl, fun _ => by kernel_rfl⟩)) hr ?_
  refine wpAnyH_take (i := 59) (v := .bool true) rfl (by kernel_rfl) (by kernel_rfl) (by kernel_rfl) (fun _ _ _ h => h) (Yields.yieldsIf (Or.inl ⟨by kernel_rfl, fun _ => by kernel_rfl⟩)) hr ?_
  refine wpAnyH_take (i := 60) (v := .int .u32 (f' : Int)) rfl (by kernel_rfl) (by kernel_rfl) (by kernel_rfl) (fun _ _ _ h => h) (Yields.yieldsIf (Or.inl ⟨by kernel_rfl, fun _ => by kernel_rfl⟩)) hr ?_
  refine wpAnyH_take (i := 63) (v := .slice (some ⟨w.heap.size + 1, 0, none⟩) 4 20) rfl (by kernel_rfl) (by kernel_rfl) (by kernel_rfl) (fun _ _ _ h => h) (Yields.yieldsIf (Or.inl ⟨by kernel_rfl, fun _ => by go_simp⟩)) hr ?_
  refine wpAnyH_take (i := 64) (v := .string (strOf 4 x)) rfl (by kernel_rfl) (by kernel_rfl) (by kernel_rfl) (fun _ _ _ h => h) (Or.inl ⟨by kernel_rfl, fun W hW => by have g := conv_bytes _ 4 20 _ W (hW.1.1.x.take (by decide)); go_simp⟩) hr ?_
  refine wpAnyH_ready (rs := [61]) (by kernel_rfl) (by simp) ?_
  refine AllReadyH.cons rfl (fun K2 hK2 => ?_) AllReadyH.nil
  go_simp
  refine Calls.mono (kputg_any f' w15 lf') ?_
  rintro e w16 ⟨r16, c16, rfl, -, -, B16, d16⟩
  have b16 : Hid (Below w.heap.size w w16) := b15.out.trans (d16.mono b15.out.size)
  have hr : ((HeldB w.heap.size G G2 t l g u j t' l' g' u' j' x w16 ∧ BytesAt w16 (some ⟨r14, 0, none⟩) 20 (repLaid t' l' g' u' j')) ∧ BytesAt w16 (some ⟨r15, 0, none⟩) 6 (nackLaid f' k')) := ⟨⟨hr.1.1.grew d16, hr.1.2.grew d16⟩, hr.2.grew d16⟩
  refine hK2.out _ _ hr (fun hr => ?_)
  clear hK2 K2
  refine wpAnyH_mono (S' := fun w' => ((HeldB w.heap.size G G2 t l g u j t' l' g' u' j' x w' ∧ BytesAt w' (some ⟨r14, 0, none⟩) 20 (repLaid t' l' g' u' j')) ∧ BytesAt w' (some ⟨r15, 0, none⟩) 6 (nackLaid f' k')) ∧ BytesAt w' (some ⟨r16, 0, none⟩) 4 (goneLaid f')) (fun _ h => h.1) _ _ _ _ ?_
  have hr : ((HeldB w.heap.size G G2 t l g u j t' l' g' u' j' x w16 ∧ BytesAt w16 (some ⟨r14, 0, none⟩) 20 (repLaid t' l' g' u' j')) ∧ BytesAt w16 (some ⟨r15, 0, none⟩) 6 (nackLaid f' k')) ∧ BytesAt w16 (some ⟨r16, 0, none⟩) 4 (goneLaid f') := ⟨hr, B16⟩
  clear B16 d16 b15
  refine wpAnyH_take (i := 62) (v := .string (strOf 4 x)) rfl (by kernel_rfl) (by kernel_rfl) (by kernel_rfl) (fun _ _ _ h => h) (Or.inl ⟨by kernel_rfl, fun W hW => by have g := conv_bytes _ 4 c16 _ W hW.2; rw [HG.out] at g; go_simp⟩) hr ?_
  refine wpAnyH_take (i := 65) (v := .bool true) rfl (by kernel_rfl) (by kernel_rfl) (by kernel_rfl) (fun _ _ _ h => h) (Yields.yieldsIf (Or.inl ⟨by kernel_rfl, fun _ => by go_simp⟩)) hr ?_
  refine wpAnyH_take (i := 66) (v := .bool true) rfl (by kernel_rfl) (by kernel_rfl) (by kernel_rfl) (fun _ _ _ h => h) (Yields.yieldsIf (Or.inl ⟨by kernel_rfl, fun _ => by kernel_rfl⟩)) hr ?_
  refine wpAnyH_take (i := 67) (v := .bool true) rfl (by kernel_rfl) (by kernel_rfl) (by kernel_rfl) (fun _ _ _ h => h) (Yields.yieldsIf (Or.inl ⟨by kernel_rfl, fun _ => by kernel_rfl⟩)) hr ?_
  refine wpAnyH_done (by kernel_rfl) ?_ _
  clear hr
  go_wp2
  go_ret
  exact ⟨rfl, b16.out⟩

theorem walk (t l g u j : Nat) (a1 a2 : Int) (c : Array Value) (x : Nat → Nat) (w : World) (h0 : t < 18446744073709551616 ∧ l < 4294967296 ∧ g < 4294967296 ∧ u < 65536 ∧ j < 65536) (h1 : (Lit.int .u32 a1).wf = true) (h2 : (Lit.int .u16 a2).wf = true) (h3 : c.size = 20 ∧ ∀ i, i < 20 → c[i]? = some (.int .u8 (x i : Int)) ∧ x i < 256) :
    Calls Try.prog 4 #[.agg #[.int .u64 (t : Int), .int .u32 (l : Int), .int .u32 (g : Int), .int .u16 (u : Int), .int .u16 (j : Int)], .int .u32 a1, .int .u16 a2, .agg c] w fun e w' => e = .returned (.bool true) ∧ Below w.heap.size w w' := by
  have k1 := bounds_u32 h1
  have k2 := bounds_u16 h2
  obtain ⟨f, rfl⟩ : ∃ n : Nat, a1 = n := ⟨a1.toNat, by omega⟩
  obtain ⟨k, rfl⟩ : ∃ n : Nat, a2 = n := ⟨a2.toNat, by omega⟩
  obtain ⟨lt, ll, lg, lu, lj⟩ := h0
  exact core t l g u j f k c x w lt ll lg lu lj (by omega) (by omega) h3.2

set_option maxRecDepth 100000 in
theorem lifted (os : Os) (started : os.Started) (H : Type) (enc : TypeId × Value → H) :
    ReturnsInHanded {} Try.checked os 4 .any (Rows.backBackSpec.pre6 enc Try.prog Try.f4 Rows.backBackRow.domain false) (Rows.backBackSpec.post enc Try.prog Try.f4 false true false false) := by
  refine returnsInHanded_of_change (C := Try.checked) own started (by kernel_rfl) Try.func4
    (ChangeSpec.witness6 (enc := enc) (C := Try.checked) false ⟨#[], #[.agg #[.int .u64 0, .int .u32 0, .int .u32 0, .int .u16 0, .int .u16 0], .int .u32 0, .int .u16 0, .agg #[.int .u8 0, .int .u8 0, .int .u8 0, .int .u8 0, .int .u8 0, .int .u8 0, .int .u8 0, .int .u8 0, .int .u8 0, .int .u8 0, .int .u8 0, .int .u8 0, .int .u8 0, .int .u8 0, .int .u8 0, .int .u8 0, .int .u8 0, .int .u8 0, .int .u8 0, .int .u8 0]], []⟩ 8 (by kernel_rfl) (by kernel_rfl) (by kernel_rfl) (by kernel_rfl)) ?_
  intro W base args ds gs before hval0 hW hcnd _
  have hval : ∀ (j : Nat) t v, Try.f4.params[j]? = some t → args[j]? = some v → Value.okWide Try.prog W .any base t v := hval0
  have hW' := hW
  obtain ⟨p, q, hA0, hV, rfl, hfz, hnd⟩ := hW
  have hA : DataW.TrodAll enc Try.prog W 0 (fun _ => true) true Try.f4.params.toList args.toList ds p := hA0
  rw [Try.params4] at hA hval
  obtain ⟨v0, vs0, d0, ds0, p0, q0, hargs, rfl, rfl, h0, r0⟩ := trodAll_cons hA
  obtain ⟨v1, vs1, d1, ds1, p1, q1, rfl, rfl, rfl, h1, r1⟩ := trodAll_cons r0
  obtain ⟨v2, vs2, d2, ds2, p2, q2, rfl, rfl, rfl, h2, r2⟩ := trodAll_cons r1
  obtain ⟨v3, vs3, d3, ds3, p3, q3, rfl, rfl, rfl, h3, r3⟩ := trodAll_cons r2
  obtain ⟨rfl, rfl, rfl⟩ := trodAll_nil r3
  obtain rfl : args = #[v0, v1, v2, v3] := by cases args; simp_all
  obtain ⟨rfl, rfl⟩ := trodVars_none hV
  have k0 := h0
  have lt0 : ∀ x ∈ p0, x.block < W.heap.size := by obtain ⟨m, hm⟩ := k0; exact DataW.trod_lt m _ _ _ hm
  obtain ⟨t0, l0, g0, u0, j0, rfl, w0⟩ := open_report (hval 0 26 v0 rfl rfl) h0
  obtain ⟨a1, rfl, rfl, rfl, w1⟩ := open_int Try.underlying23 (hval 1 23 v1 rfl rfl) h1
  obtain ⟨a2, rfl, rfl, rfl, w2⟩ := open_int Try.underlying24 (hval 2 24 v2 rfl rfl) h2
  have k3 := h3
  have lt3 : ∀ x ∈ p3, x.block < W.heap.size := by obtain ⟨m, hm⟩ := k3; exact DataW.trod_lt m _ _ _ hm
  obtain ⟨c3, x3, rfl, w3⟩ := open_arr_u8 Try.underlying43 Try.underlying5 (by kernel_rfl) (by kernel_rfl) (hval 3 43 v3 rfl rfl) h3
  clear hA0 hval0
  refine (walk t0 l0 g0 u0 j0 a1 a2 c3 x3 W w0 w1 w2 w3).mono fun e W' ⟨he, bel⟩ => ?_
  subst he
  exact ⟨_, rfl, _, _, _, [], _, [], hW', trodAll_mk1 (shut_bool Try.underlying4 _), (trodAll_cons_mk (Below.trod laidOut (by kernel_rfl) (of_decide_eq_true (by kernel_rfl)) k0 bel lt0) (trodAll_cons_mk (shut_int Try.underlying23 w1) (trodAll_cons_mk (shut_int Try.underlying24 w2) (trodAll_cons_mk (Below.trod laidOut (by kernel_rfl) (of_decide_eq_true (by kernel_rfl)) k3 bel lt3) trodAll_mk0)))), rfl, bel.frame _, fun h => by cases h⟩

theorem over : Rows.backBackRow.holds Try.pinned (OpenSpec.ofChange Rows.backBackSpec) :=
  OpenClaim.holds_of_wide 4 Try.f4 rfl rfl rfl rfl rfl rfl rfl ⟨rfl, rfl, rfl, rfl, rfl⟩ rfl rfl rfl rfl rfl (by kernel_rfl) Try.func4 (by kernel_rfl)
    (of_decide_eq_true (by kernel_rfl)) (by unfold Func.isWrapper; first | (rw [if_pos (by decide +kernel)]; kernel_rfl) | (rw [if_neg (by decide +kernel)]; exact ⟨rfl, rfl⟩))
    (fun os started H enc _ => lifted os started H enc)

theorem proved : Rows.BackBackSaid := over
end Go.Proofs.Ytmckfcbhkahcmaa.backBack
namespace Go.Proofs.Ytmckfcbhkahcmaa
theorem backBack_holds : Rows.BackBackSaid := backBack.proved
#print axioms backBack_holds
end Go.Proofs.Ytmckfcbhkahcmaa

/-
  What is packed can be caught: any packets of a frame out of numbers whose rows have full rank give the frame's bytes: the call returns true whatever the numbers, the ids and the first number are (60 numbers and 30 ids at most are looked at; no condition).
-/
import Derived.Test.YthlidbenhlidjaaRows
import Derived.WalkKit
import Derived.ProofKit
import Derived.OpenShut
import Derived.ShutString
import Derived.ChangeOld
import Derived.Below
import Derived.Carry
import Derived.Test.YthlidbenhlidjaaJ1
import Derived.Test.YthlidbenhlidjaaJ8
import Derived.Test.YthlidbenhlidjaaJ9
import Derived.Test.YthlidbenhlidjaaJ12
import Derived.Test.YthlidbenhlidjaaJ11
import Derived.Deep.RegionHeld
import Derived.BigQuiet
namespace Go.Proofs.Ythlidbenhlidjaa.packCaught
open Go.ChangeShapes Go.WideShapes Go.ChangeAt Go.RowKit
open Go.ChangeMaps (open_string shut_string)
set_option linter.unusedVariables false

theorem own : ownKnob Try.prog.godebug = none := by kernel_rfl
theorem laidOut : laidOutB Try.prog = true := by kernel_rfl

open Go.Deep

set_option maxRecDepth 100000 in
set_option maxHeartbeats 400000 in
theorem none' (a : Option Addr) (n c : Nat) (ia : Option Addr) (m ic : Nat) (q : Int) (w : World) (h : ¬ (n ≤ 60 ∧ m ≤ 30)) :
    Calls Try.prog 4 #[.slice a n c, .slice ia m ic, .int .u16 q] w fun e w' => e = .returned (.bool true) ∧ Below w.heap.size w w' := by
  go_enter Try.func4, Try.ntmps4
  go_wp2_with fail
  refine (begun15 _).mono ?_
  rintro e w2 ⟨rfl, b2⟩
  have HB : Hid (Below w.heap.size w w2) := b2
  clear b2
  by_cases h1 : n ≤ 60
  · have h2 : decide (60 < (n : Int)) = false := by simp; omega
    have h3 : decide (30 < (m : Int)) = true := by simp; omega
    clear h h1
    go_wp2
    go_ret
    exact ⟨rfl, HB.out⟩
  · have h2 : decide (60 < (n : Int)) = true := by simp; omega
    clear h h1
    go_wp2
    go_ret
    exact ⟨rfl, HB.out⟩

set_option maxRecDepth 100000 in
set_option maxHeartbeats 4000000 in
theorem core (a : Option Addr) (n c : Nat) (x0 : Nat → Nat) (ia : Option Addr) (m ic : Nat) (y : Nat → Nat) (q : Nat) (w : World) (hx : BytesAt w a n x0) (hy : BytesAt w ia m y) (hq : q < 65536) (n1 : n ≤ 60) (m1 : m ≤ 30) :
    Calls Try.prog 4 #[.slice a n c, .slice ia m ic, .int .u16 (q : Int)] w fun e w' => e = .returned (.bool true) ∧ Below w.heap.size w w' := by
  have hn1 : decide (60 < (n : Int)) = false := by simp; omega
  have hm1 : decide (30 < (m : Int)) = false := by simp; omega
  have HY : Hid (BytesAt w ia m y) := hy
  go_enter Try.func4, Try.ntmps4
  go_wp2_with fail
  refine (begun15 _).mono ?_
  rintro e w1 ⟨rfl, b1⟩
  have X1 := hx.grew b1
  go_wp2_with fail
  refine (made_any a n c x0 w1 X1 (by omega)).mono ?_
  rintro e w2 ⟨rfl, b2, s2, pk⟩
  have HB2 : Hid (Below w.heap.size w w2) := b1.trans (b2.mono b1.size)
  have HWP : Hid (w.heap.size ≤ w1.heap.size) := b1.size
  generalize w1.heap.size = P at *
  have HS2 : Hid (w2.heap.size = P + 1) := s2
  clear hx hy b1 b2 X1 s2 hn1 hm1
  go_wp2_with fail
  refine (next_none (P + 1) P 0 0 none 0 0 w2 pk (by rw [HS2.out]; exact Nat.le_refl _) (by decide) rfl (fun _ => False)).mono ?_
  rintro e w3 ⟨c3, ⟨fi, fk, fa, fn, fc, fs, fp, fd⟩, rr, bv, rfl, -, -, hid, -, -, hsz⟩
  obtain ⟨nF, hnF⟩ : ∃ nF : Nat, fs = (nF : Int) := ⟨fs.toNat, by have := hsz.1; simp only at this; omega⟩
  subst hnF
  have nF1 : 1 ≤ nF := by have := hsz.1; simp only at this; omega
  have nF2 : nF ≤ 20 := by have := hsz.2; simp only at this; omega
  have hfi : fi < 4294967296 := by simp only at hid; omega
  have HC3 : Hid (Chose (P + 1) P w2 w3) := c3
  have hS3 : Hid (P + 1 ≤ w3.heap.size) := by have := c3.kept.size; have := HS2.out; show P + 1 ≤ w3.heap.size; omega
  have HB3 : Hid (Below w.heap.size w w3) := HB2.out.trans (c3.kept.below HWP.out HB2.out.size)
  clear c3 hid hsz pk
  unfold Fr.val
  simp only
  obtain ⟨y0, e0⟩ : ∃ x, (w3.alloc (.cells #[.int .u32 (fi : Int), .int .i64 fk, .slice fa fn fc, .int .i64 (nF : Int), .int .i64 fp, .int .i64 fd] 25)) = x := ⟨_, rfl⟩
  have B0 : Below w3.heap.size w3 y0 := e0 ▸ (Below.refl _ _).alloc (Nat.le_refl _) _
  have F0 : Hid (FrAt y0 w3.heap.size ⟨fi, fk, fa, fn, fc, (nF : Int), fp, fd⟩) := e0 ▸ FrAt.made w3 _ ⟨fi, fk, fa, fn, fc, (nF : Int), fp, fd⟩
  have HY0 : Hid (Chose (P + 1) P w2 y0) := HC3.out.grew B0
  have HB0 : Hid (Below w.heap.size w y0) := HB3.out.trans (B0.mono HB3.out.size)
  have hS0 : Hid (P + 1 ≤ y0.heap.size ∧ w3.heap.size < y0.heap.size) := ⟨Nat.le_trans hS3.out B0.size, F0.out.lt⟩
  obtain ⟨f0, f1, f2, f3, f4, f5, -⟩ := F0.out
  simp only at f0 f1 f2 f3 f4 f5
  clear B0 HC3 HB3
  go_wp2_with fail
  clear e0 f0 f1 f2 f3 f4 f5
  generalize hR : w3.heap.size = R at *
  clear hR
  obtain ⟨p4, hp4⟩ := HY0.out.picks
  refine (body_bytes (P + 1) P p4 nF y0 hp4 hS0.out.1 (by omega)).mono ?_
  rintro e w5 ⟨c5, x, rfl, bs⟩
  have HX5 : Hid (BytesAt w5 (some ⟨y0.heap.size, 0, none⟩) nF x) := bs
  have F5 : Hid (FrAt w5 R ⟨fi, fk, fa, fn, fc, (nF : Int), fp, fd⟩) := F0.out.kept c5.kept (by have := hS3.out; omega)
  have HB5 : Hid (Below w.heap.size w w5) := HB0.out.trans (c5.kept.below HWP.out HB0.out.size)
  have HY5 : Hid (BytesAt w5 ia m y) := HY.out.below HB5.out (Nat.le_refl _)
  obtain ⟨k, hk⟩ : ∃ k, k = cntOf nF 4 := ⟨_, rfl⟩
  have k1 : 1 ≤ k := hk ▸ cnt_pos (by decide) nF1
  have k2 : k ≤ 32 := hk ▸ cnt_le nF 4 (by decide) (by omega)
  have E1 : Hid (((nF : Int) + 3) / 4 = (k : Int)) := by show ((nF : Int) + 3) / 4 = (k : Int); rw [hk]; unfold cntOf; omega
  have HK : Hid (k = cntOf nF 4) := hk
  have z1 : ((k : Int) + 64 == 0) = false := by simp; omega
  clear hk bs c5 hp4 F0 HY0 HB0 hS0 HY hS3
  generalize y0.heap.size = B at *
  obtain ⟨f0, f1, f2, f3, f4, f5, -⟩ := F5.out
  simp only at f0 f1 f2 f3 f4 f5
  go_wp2_with fail
  rw [E1.out]
  clear E1 f0 f1 f2 f3 f4 f5
  go_loopw [12, 13] (fun l i wr => ∃ j : Nat, i = .int .i64 j ∧ j ≤ m ∧ Hid (Ior wr w5.heap.size l j (fun i => ((y i % (k + 64) : Nat) : Int))) ∧ Hid (Below w5.heap.size w5 wr)) (fun _ i _ => m - (intOf i).toNat)
  case atStart => exact ⟨0, rfl, Nat.zero_le _, Ior.nil _ _ _, Below.refl _ _⟩
  case round =>
    obtain ⟨j, rfl, hj, hl, hbl⟩ := hrel
    obtain ⟨lr, lcap, rfl, -, -, hln⟩ := hl.out.any
    by_cases hjm : j < m
    case pos =>
      have j1 : (j : Int) < (m : Int) := by omega
      have Y3 := HY5.out.grew hbl.out
      obtain ⟨ib, io, rfl⟩ := bytes_some Y3 (by omega)
      have c1 := bytes_cell Y3 j hjm
      have yl := Y3.lt j hjm
      have HE2 : Hid ((y j : Int) % ((k : Int) + 64) = ((y j % (k + 64) : Nat) : Int)) := by show (y j : Int) % ((k : Int) + 64) = ((y j % (k + 64) : Nat) : Int); rw [Int.natCast_emod]; rfl
      obtain ⟨v, hv⟩ : ∃ v, v = (y j : Int) % ((k : Int) + 64) := ⟨_, rfl⟩
      obtain ⟨x1, e1⟩ : ∃ x, wr.alloc (.cells #[.int .i64 ((y j : Int) % ((k : Int) + 64))] 3) = x := ⟨_, rfl⟩
      have B1 : Below wr.heap.size wr x1 := e1 ▸ (Below.refl _ _).alloc (Nat.le_refl _) _
      have N1 : NumsAt .i64 x1 (some ⟨wr.heap.size, 0, none⟩) 1 (fun _ => ((y j % (k + 64) : Nat) : Int)) := e1 ▸ (fun _ => ⟨_, 0, rfl, fun i hi => by
        obtain rfl : i = 0 := by omega
        rw [World.cell?_alloc_at _ _ _ _ rfl, ← HE2.out]; rfl⟩)
      have hsz : w5.heap.size ≤ x1.heap.size := Nat.le_trans hbl.out.size B1.size
      have L1 := hl.out.grew B1
      obtain ⟨v', x2, happ, L2, g2⟩ := Ior.push (c := 1) 27 L1 N1 (by decide) (by omega) hsz
      have HB2' : Hid (Below w5.heap.size w5 x2) := (hbl.out.trans (B1.mono hbl.out.size)).trans (L1.grown g2 hsz)
      have HL2 : Hid (Ior x2 w5.heap.size v' (j + 1) (fun i => ((y i % (k + 64) : Nat) : Int))) := L2.congr fun i hi => by
        by_cases e : i < j
        · simp only [if_pos e]
        · obtain rfl : i = j := by omega
          simp only [if_neg e]
      obtain ⟨lr', lcap', rfl, -⟩ := L2.any
      clear Y3 hv B1 N1 hsz L1 L2 g2 hl hbl hln HE2
      generalize y j = yj at *
      go_wp2_with (at_builtin; refine Go.Lib.wpList_append_run _ rfl (.tmp 52) (.tmp 61) 27 27 rfl _ _ rfl rfl _ _ happ ?_)
      go_roundw
      case rel => exact ⟨j + 1, by go_num, by omega, HL2, HB2'⟩
      case measure => simp [intOf]; omega
    obtain rfl : j = m := by omega
    have j1 : decide ((j : Int) < (j : Int)) = false := by simp
    obtain ⟨Z, hZ⟩ : ∃ Z : Nat → Nat, Z = fun i => y i % (k + 64) := ⟨_, rfl⟩
    have HZ : Hid (∀ i, Z i < k + 64) := fun i => by rw [hZ]; exact Nat.mod_lt _ (by omega)
    have HLN : Hid (IntsAt wr lr j (fun i => ((Z i : Nat) : Int))) := by rw [hZ]; exact hln
    have F6 : Hid (FrAt wr R ⟨fi, fk, fa, fn, fc, (nF : Int), fp, fd⟩) := F5.out.grew hbl.out
    have HX6 : Hid (BytesAt wr (some ⟨B, 0, none⟩) nF x) := HX5.out.grew hbl.out
    have HB6 : Hid (Below w.heap.size w wr) := HB5.out.trans (hbl.out.mono HB5.out.size)
    clear hl hbl hln hZ HY5 F5 HX5 HB5
    go_wp2_with fail
    refine wp_region_held (S := fun W => Below wr.heap.size wr W) (by kernel_rfl) ?_
    change wpAnyH _ _ _ _ _ _ _ _ wr.drew
    have hr : Below wr.heap.size wr wr.drew := below_drews 1
    generalize wr.drew = w6 at *
    refine wpAnyH_take (i := 1) (v := .agg #[.int .u32 (fi : Int), .int .i64 fk, .slice fa fn fc, .int .i64 (nF : Int), .int .i64 fp, .int .i64 fd]) rfl (by kernel_rfl) (by kernel_rfl) (by kernel_rfl) (fun _ _ _ h => h) (Or.inl ⟨by kernel_rfl, fun W hW => by obtain ⟨g0, g1, g2, g3, g4, g5, -⟩ := F6.out.grew hW; simp only at g0 g1 g2 g3 g4 g5; go_simp⟩) hr ?_
    refine wpAnyH_take (i := 2) (v := .slice (some ⟨B, 0, none⟩) nF nF) rfl (by kernel_rfl) (by kernel_rfl) (by kernel_rfl) (fun _ _ _ h => h) (Yields.yieldsIf (Or.inl ⟨by kernel_rfl, fun _ => by kernel_rfl⟩)) hr ?_
    refine wpAnyH_take (i := 3) (v := .slice lr j lcap) rfl (by kernel_rfl) (by kernel_rfl) (by kernel_rfl) (fun _ _ _ h => h) (Yields.yieldsIf (Or.inl ⟨by kernel_rfl, fun _ => by kernel_rfl⟩)) hr ?_
    refine wpAnyH_take (i := 4) (v := .int .u16 (q : Int)) rfl (by kernel_rfl) (by kernel_rfl) (by kernel_rfl) (fun _ _ _ h => h) (Yields.yieldsIf (Or.inl ⟨by kernel_rfl, fun _ => by kernel_rfl⟩)) hr ?_
    refine wpAnyH_ready (rs := [0]) (by kernel_rfl) (by simp) ?_
    refine AllReadyH.cons rfl (fun K2 hK2 => ?_) AllReadyH.nil
    go_simp
    refine Calls.mono (new_any _) ?_
    rintro e w7 ⟨rfl, bb, HF, -⟩
    have hr := hr.trans (bb.mono hr.size)
    refine hK2.out _ _ hr (fun hr => ?_)
    clear hK2 K2 bb
    refine wpAnyH_ready (rs := [5]) (by kernel_rfl) (by simp) ?_
    refine AllReadyH.cons rfl (fun K2 hK2 => ?_) AllReadyH.nil
    go_simp
    refine Calls.mono (packets_is _ true ⟨fi, fk, fa, fn, fc, (nF : Int), fp, fd⟩ _ _ nF _ 4 _ j _ q 7 _ _ (fun i => ((Z i : Nat) : Int)) x w7 rfl rfl rfl (FldIs.mk' HF) (HX6.out.grew hr) (HLN.out.grew hr) (by omega) (by omega) hfi hq) ?_
    rintro e w8 hp
    have hfit : Fit true nF 4 (fun i => ((Z i : Nat) : Int)) j := fun i _ => ⟨rfl, ⟨by decide, by decide, by omega, by omega⟩, by have := HZ.out i; have := HK.out; show (0 : Int) ≤ ((Z i : Nat) : Int) ∧ ((Z i : Nat) : Int) < (cntOf nF 4 : Int) + 64; omega⟩
    obtain ⟨v, K, rfl, hds, htl, hbb⟩ := hp.yes rfl hfit
    have hr := hr.trans (hbb.mono hr.size)
    obtain ⟨r1, cap1, rfl, hrow, -⟩ := hds.row.any
    have HPK : Hid (Pks w8 j q 7 fi nF 4 x (fun i => ((Z i : Nat) : Int)) r1 K) := ⟨hrow, htl, fun i hi => (hds.body i hi).bs⟩
    refine hK2.out _ _ hr (fun hr => ?_)
    clear hK2 K2 hp hds htl hbb hrow hfit HF
    refine wpAnyH_take (i := 6) (v := .tuple #[.slice r1 j cap1, .bool true]) rfl (by kernel_rfl) (by kernel_rfl) (by kernel_rfl) (fun _ _ _ h => h) (Yields.yieldsIf (Or.inl ⟨by kernel_rfl, fun _ => by kernel_rfl⟩)) hr ?_
    refine wpAnyH_take (i := 7) (v := .slice r1 j cap1) rfl (by kernel_rfl) (by kernel_rfl) (by kernel_rfl) (fun _ _ _ h => h) (Yields.yieldsIf (Or.inl ⟨by kernel_rfl, fun _ => by go_simp⟩)) hr ?_
    refine wpAnyH_take (i := 8) (v := .bool true) rfl (by kernel_rfl) (by kernel_rfl) (by kernel_rfl) (fun _ _ _ h => h) (Yields.yieldsIf (Or.inl ⟨by kernel_rfl, fun _ => by go_simp⟩)) hr ?_
    refine wpAnyH_take (i := 9) (v := .slice r1 j cap1) rfl (by kernel_rfl) (by kernel_rfl) (by kernel_rfl) (fun _ _ _ h => h) (Yields.yieldsIf (Or.inl ⟨by kernel_rfl, fun _ => by kernel_rfl⟩)) hr ?_
    refine wpAnyH_take (i := 10) (v := .bool true) rfl (by kernel_rfl) (by kernel_rfl) (by kernel_rfl) (fun _ _ _ h => h) (Yields.yieldsIf (Or.inl ⟨by kernel_rfl, fun _ => by kernel_rfl⟩)) hr ?_
    refine wpAnyH_done (by kernel_rfl) ?_ _
    have F8 : Hid (FrAt w8 R ⟨fi, fk, fa, fn, fc, (nF : Int), fp, fd⟩) := F6.out.grew hr
    have HX8 : Hid (BytesAt w8 (some ⟨B, 0, none⟩) nF x) := HX6.out.grew hr
    have HL8 : Hid (IntsAt w8 lr j (fun i => ((Z i : Nat) : Int))) := HLN.out.grew hr
    have HB8 : Hid (Below w.heap.size w w8) := HB6.out.trans (hr.mono HB6.out.size)
    clear hr F6 HX6 HLN HB6
    obtain ⟨f0, f1, f2, f3, f4, f5, -⟩ := F8.out
    simp only at f0 f1 f2 f3 f4 f5
    go_wp2_with fail
    clear f0 f1 f2 f3 f4 f5
    refine (rbasin_new 0 fi nF 4 k _ (by decide) (by decide) nF1 (by omega) HK.out k1 k2).mono ?_
    rintro e w9 ⟨N, D, rfl, -, hD, hND, N2, R2, b9⟩
    have HN9 : Hid (BsnAt w9 N D fi nF 4) := N2
    have HR9 : Hid (RefAt w9 D 0 k 4 0 (fun _ _ => 0)) := R2
    have HB9 : Hid (Below w8.heap.size w8 w9) := b9
    have HZ2 : Hid (∀ i j, piece x nF 4 i j < 256) := fun i j => piece_lt HX8.out.lt j
    have HS : Hid (∀ id, Sp (Rw (truS (piece x nF 4) k) k) (cat (Dice.rowOf fi id k) (symOf fi x nF 4 id) k)) := fun id => by
      show Sp _ _
      unfold symOf
      rw [← HK.out]
      exact row_sp _ _ _ (fun i => Dice.rowOf_lt _ _ _ _)
    have HJ : Hid (strOf nF (joined (piece x nF 4) 4) = strOf nF x) := strOf_congr (joined_piece x nF 4)
    have jj : ((j : Int) != (j : Int)) = false := by simp
    clear N2 R2 b9
    go_wp2_with fail
    clear jj
    generalize wr = wo at *
    go_loopw [18] (fun i wr => ∃ (u d : Nat) (V : Nat → Nat → Nat), u ≤ j ∧ i = .int .i64 u ∧ Hid (BsnAt wr N D fi nF 4) ∧ Hid (RefAt wr D 0 k 4 d V) ∧ Hid (Took k d (piece x nF 4) V) ∧ Hid (Below w8.heap.size w8 wr)) (fun i _ => j - (intOf i).toNat)
    case atStart => exact ⟨0, 0, _, Nat.zero_le _, rfl, HN9, HR9, Took.none _ _ _, HB9⟩
    case round =>
      obtain ⟨u, d, V, hu, rfl, HN3, HR3, HT3, HB3⟩ := hrel
      clear HN9 HR9 HB9
      have dk := HT3.out.le
      by_cases huj : u < j
      case neg =>
        obtain rfl : u = j := by omega
        have j1 : decide ((u : Int) < (u : Int)) = false := by simp
        by_cases hdk : d < k
        · go_wp2_with fail
          refine (rpay_no N D 0 fi nF k 4 d V _ HN3.out HR3.out hdk).mono ?_
          rintro e w4 ⟨rfl, q4⟩
          have HB5 : Hid (Below w.heap.size w w4) := HB8.out.trans ((HB3.out.trans (q4.below _)).mono HB8.out.size)
          clear q4
          go_wp2
          go_ret
          exact ⟨rfl, HB5.out⟩
        · obtain rfl : d = k := by omega
          go_wp2_with fail
          refine (rpay_yes N D 0 fi nF d 4 _ V _ HN3.out HR3.out HT3.out HZ2.out k1 k2 (by decide) (by decide) nF1 (by omega) HK.out.symm).mono ?_
          rintro e w4 ⟨a4, c4, rfl, B4, b4⟩
          have HB4 : Hid (Below w8.heap.size w8 w4) := HB3.out.trans (b4.mono HB3.out.size)
          have HB5 : Hid (Below w.heap.size w w4) := HB8.out.trans (HB4.out.mono HB8.out.size)
          have e1 := conv_bytes _ _ c4 _ _ B4
          rw [HJ.out] at e1
          have e2 := conv_bytes (some ⟨B, 0, none⟩) nF nF x _ (HX8.out.grew HB4.out)
          clear B4 b4
          go_wp2
          go_ret
          exact ⟨rfl, HB5.out⟩
      have j1 : (u : Int) < (j : Int) := by omega
      obtain ⟨xb, xo, rfl⟩ := HPK.out.addr (by omega)
      obtain ⟨lb, lo, rfl⟩ := HL8.out.addr (by omega)
      obtain ⟨a1, ca1, p0, p1, p2, p3, p4, X1⟩ := (HPK.out.grew HB3.out).at u huj
      have l1 := (HL8.out.grew HB3.out).at u huj
      have f0 := (F8.out.grew HB3.out).c0
      simp only [Int.toNat_natCast] at p3 l1 X1 f0
      have hz := HZ.out u
      have HX1 : Hid (BytesAt wr a1 4 (symOf fi x nF 4 (Z u))) := X1
      have HSu : Hid (Sp (Rw (truS (piece x nF 4) k) k) (cat (Dice.rowOf fi (Z u) k) (symOf fi x nF 4 (Z u)) k)) := HS.out (Z u)
      have HSB : Hid (Byt (symOf fi x nF 4 (Z u))) := fun j => symOf_lt _ _ _ _ _ _
      generalize Z u = Zu at *
      obtain ⟨qu, hqu⟩ : ∃ qu, qu = (q + u) % 65536 := ⟨_, rfl⟩
      rw [← hqu] at p0
      have EM : ((q : Int) + (u : Int)) % 65536 = (qu : Int) := by rw [hqu]; omega
      have W1 : IntKind.i64.wrap (q : Int) = (q : Int) := by rw [IntKind.wrap_i64]; omega
      have W2 : IntKind.i64.wrap ((q : Int) + (u : Int)) = (q : Int) + (u : Int) := by rw [IntKind.wrap_i64]; omega
      have W3 : ((q : Int) + (u : Int)).tmod 65536 = (qu : Int) := by rw [Int.tmod_eq_emod_of_nonneg (by omega)]; exact EM
      have W4 : IntKind.u16.wrap (qu : Int) = (qu : Int) := wrap_u16 qu (by omega)
      have W5 : IntKind.i64.wrap (Zu : Int) = (Zu : Int) := by rw [IntKind.wrap_i64]; omega
      clear X1 hqu
      go_wp2_with fail
      go_quiet (fail)
      have HN4 : Hid (BsnAt (wr.drewN nq) N D fi nF 4) := HN3.out.grew (below_drews _)
      have HR4 : Hid (RefAt (wr.drewN nq) D 0 k 4 d V) := HR3.out.grew (below_drews _)
      have HB4 : Hid (Below w8.heap.size w8 (wr.drewN nq)) := HB3.out.trans (below_drews _)
      have HX4 : Hid (BytesAt (wr.drewN nq) a1 4 (symOf fi x nF 4 Zu)) := HX1.out.grew (below_drews _)
      have HC4 : Hid ((wr.drewN nq).cell? ⟨xb, xo + u * 5 + 3, none⟩ = some (.int .u16 (Zu : Int)) ∧ (wr.drewN nq).cell? ⟨xb, xo + u * 5 + 4, none⟩ = some (.slice a1 4 ca1)) := ⟨p3, p4⟩
      clear p0 p1 p2 p3 p4 l1 f0 HN3 HR3 HB3 HX1 W1 W2 W3 W4 EM
      generalize wr.drewN nq = w4 at *
      go_wp2_with fail
      refine wp_region_held (S := fun W => Below w8.heap.size w8 W) (by kernel_rfl) ?_
      change wpAnyH _ _ _ _ _ _ _ _ w4.drew
      have hr : Below w8.heap.size w8 w4.drew := HB4.out.drew
      have bd : Below w4.heap.size w4 w4.drew := below_drews 1
      have HN5 : Hid (BsnAt w4.drew N D fi nF 4) := HN4.out.grew bd
      have HR5 : Hid (RefAt w4.drew D 0 k 4 d V) := HR4.out.grew bd
      have HX5 : Hid (BytesAt w4.drew a1 4 (symOf fi x nF 4 Zu)) := HX4.out.grew bd
      have HZ5 : Hid (0 < w4.drew.heap.size) := Nat.lt_of_le_of_lt (Nat.zero_le _) HN5.out.lt
      have HB5 : Hid (Below w8.heap.size w8 w4.drew) := hr
      obtain ⟨bx3, bx4⟩ := HC4.out
      have hlx : Hid (xb < w8.heap.size) := by
        have := (HPK.out.at u huj)
        obtain ⟨_, _, h0, -⟩ := this
        exact cell_lt h0
      have HC8 : Hid (w8.cell? ⟨xb, xo + u * 5 + 3, none⟩ = some (.int .u16 (Zu : Int)) ∧ w8.cell? ⟨xb, xo + u * 5 + 4, none⟩ = some (.slice a1 4 ca1)) :=
        ⟨(HB4.out.cell (p := ⟨xb, xo + u * 5 + 3, none⟩) hlx.out).symm.trans bx3, (HB4.out.cell (p := ⟨xb, xo + u * 5 + 4, none⟩) hlx.out).symm.trans bx4⟩
      clear bd bx3 bx4 HN4 HR4 HX4 HC4 HB4
      generalize w4.drew = w5' at *
      refine wpAnyH_take (i := 0) (v := .pointer (some ⟨N, 0, none⟩)) rfl (by kernel_rfl) (by kernel_rfl) (by kernel_rfl) (fun _ _ _ h => h) (Yields.yieldsIf (Or.inl ⟨by kernel_rfl, fun _ => by kernel_rfl⟩)) hr ?_
      refine wpAnyH_take (i := 1) (v := .slice (some ⟨xb, xo, none⟩) j cap1) rfl (by kernel_rfl) (by kernel_rfl) (by kernel_rfl) (fun _ _ _ h => h) (Yields.yieldsIf (Or.inl ⟨by kernel_rfl, fun _ => by kernel_rfl⟩)) hr ?_
      refine wpAnyH_take (i := 2) (v := .int .i64 (u : Int)) rfl (by kernel_rfl) (by kernel_rfl) (by kernel_rfl) (fun _ _ _ h => h) (Yields.yieldsIf (Or.inl ⟨by kernel_rfl, fun _ => by kernel_rfl⟩)) hr ?_
      refine wpAnyH_take (i := 3) (v := .pointer (some ⟨xb, xo + u * 5, none⟩)) rfl (by kernel_rfl) (by kernel_rfl) (by kernel_rfl) (fun _ _ _ h => h) (Yields.yieldsIf (Or.inl ⟨by kernel_rfl, fun _ => by go_simp⟩)) hr ?_
      refine wpAnyH_take (i := 4) (v := .pointer (some ⟨xb, xo + u * 5 + 3, none⟩)) rfl (by kernel_rfl) (by kernel_rfl) (by kernel_rfl) (fun _ _ _ h => h) (Yields.yieldsIf (Or.inl ⟨by kernel_rfl, fun _ => by go_simp⟩)) hr ?_
      refine wpAnyH_take (i := 5) (v := .int .u16 (Zu : Int)) rfl (by kernel_rfl) (by kernel_rfl) (by kernel_rfl) (fun _ _ _ h => h) (Or.inl ⟨by kernel_rfl, fun W hW => by have g := (hW.cell (p := ⟨xb, xo + u * 5 + 3, none⟩) hlx.out).trans HC8.out.1; go_simp⟩) hr ?_
      refine wpAnyH_take (i := 6) (v := .int .i64 (Zu : Int)) rfl (by kernel_rfl) (by kernel_rfl) (by kernel_rfl) (fun _ _ _ h => h) (Yields.yieldsIf (Or.inl ⟨by kernel_rfl, fun _ => by go_simp⟩)) hr ?_
      refine wpAnyH_take (i := 7) (v := .slice (some ⟨xb, xo, none⟩) j cap1) rfl (by kernel_rfl) (by kernel_rfl) (by kernel_rfl) (fun _ _ _ h => h) (Yields.yieldsIf (Or.inl ⟨by kernel_rfl, fun _ => by kernel_rfl⟩)) hr ?_
      refine wpAnyH_take (i := 8) (v := .int .i64 (u : Int)) rfl (by kernel_rfl) (by kernel_rfl) (by kernel_rfl) (fun _ _ _ h => h) (Yields.yieldsIf (Or.inl ⟨by kernel_rfl, fun _ => by kernel_rfl⟩)) hr ?_
      refine wpAnyH_take (i := 9) (v := .pointer (some ⟨xb, xo + u * 5, none⟩)) rfl (by kernel_rfl) (by kernel_rfl) (by kernel_rfl) (fun _ _ _ h => h) (Yields.yieldsIf (Or.inl ⟨by kernel_rfl, fun _ => by go_simp⟩)) hr ?_
      refine wpAnyH_take (i := 10) (v := .pointer (some ⟨xb, xo + u * 5 + 4, none⟩)) rfl (by kernel_rfl) (by kernel_rfl) (by kernel_rfl) (fun _ _ _ h => h) (Yields.yieldsIf (Or.inl ⟨by kernel_rfl, fun _ => by go_simp⟩)) hr ?_
      refine wpAnyH_take (i := 11) (v := .slice a1 4 ca1) rfl (by kernel_rfl) (by kernel_rfl) (by kernel_rfl) (fun _ _ _ h => h) (Or.inl ⟨by kernel_rfl, fun W hW => by have g := (hW.cell (p := ⟨xb, xo + u * 5 + 4, none⟩) hlx.out).trans HC8.out.2; go_simp⟩) hr ?_
      refine wpAnyH_ready (rs := [12]) (by kernel_rfl) (by simp) ?_
      refine AllReadyH.cons rfl (fun K2 hK2 => ?_) AllReadyH.nil
      go_simp
      refine Calls.mono (rbadd_yes N D 0 fi nF k 4 d Zu ca1 V _ _ w5' HN5.out HR5.out HX5.out HSB.out HT3.out.byt hfi k1 k2 (by decide) (by decide) (by omega) HZ5.out hz) ?_
      rintro e w7 ⟨nn, Vr, T, st, hh, hk7⟩
      obtain ⟨bb, d', V', rfl, R7, T7⟩ : ∃ bb d' V', e = .returned (.bool bb) ∧ RefAt w7 D 0 k 4 d' V' ∧ Took k d' (piece x nF 4) V' := by
        rcases hh with ⟨m1, e1, r2⟩ | ⟨m1, e1, r2⟩
        · exact ⟨_, _, _, e1, r2, HT3.out⟩
        · exact ⟨_, _, _, e1, r2, HT3.out.more HSu.out st m1⟩
      have HR7 : Hid (RefAt w7 D 0 k 4 d' V') := R7
      have HT7 : Hid (Took k d' (piece x nF 4) V') := T7
      have HN7 : Hid (BsnAt w7 N D fi nF 4) := HN5.out.kept hk7 hND
      have hr := hr.trans (hk7.below hD hr.size)
      have HB7 : Hid (Below w8.heap.size w8 w7) := hr
      refine hK2.out _ _ hr (fun hr => ?_)
      clear hK2 K2 hh st hk7 R7 T7
      refine wpAnyH_done (by kernel_rfl) ?_ _
      clear hr HN5 HR5 HX5 HZ5 HB5 HC8 hlx HT3 HSu HSB W5
      go_wp2_with fail
      go_roundw
      case rel => exact ⟨u + 1, d', V', by omega, by go_num, HN7, HR7, HT7, HB7⟩
      case measure => simp [intOf]; omega

theorem walk (a0 : Option Addr) (len0 cap0 : Nat) (x0 : Nat → Nat) (a1 : Option Addr) (len1 cap1 : Nat) (x1 : Nat → Nat) (a2 : Int) (w : World) (h0 : BytesAt w a0 len0 x0 ∧ len0 ≤ cap0 ∧ cap0 ≤ maxLen) (h1 : BytesAt w a1 len1 x1 ∧ len1 ≤ cap1 ∧ cap1 ≤ maxLen) (w2 : (Lit.int .u16 a2).wf = true) :
    Calls Try.prog 4 #[.slice a0 len0 cap0, .slice a1 len1 cap1, .int .u16 a2] w fun e w' => e = .returned (.bool true) ∧ Below w.heap.size w w' := by
  have b2 := bounds_u16 w2
  obtain ⟨q, rfl⟩ : ∃ n : Nat, a2 = n := ⟨a2.toNat, by omega⟩
  by_cases hl : len0 ≤ 60 ∧ len1 ≤ 30
  · exact core a0 len0 cap0 _ a1 len1 cap1 _ q w h0.1 h1.1 (by omega) hl.1 hl.2
  · exact none' a0 len0 cap0 a1 len1 cap1 q w hl

set_option maxRecDepth 100000 in
theorem lifted (os : Os) (started : os.Started) (H : Type) (enc : TypeId × Value → H) :
    ReturnsInHanded {} Try.checked os 4 .any (Rows.packCaughtSpec.pre6 enc Try.prog Try.f4 Rows.packCaughtRow.domain false) (Rows.packCaughtSpec.post enc Try.prog Try.f4 false true false false) := by
  refine returnsInHanded_of_change (C := Try.checked) own started (by kernel_rfl) Try.func4
    (ChangeSpec.witness6 (enc := enc) (C := Try.checked) false ⟨#[], #[.slice none 0 0, .slice none 0 0, .int .u16 0], []⟩ 8 (by kernel_rfl) (by kernel_rfl) (by kernel_rfl) (by kernel_rfl)) ?_
  intro W base args ds gs before hval0 hW hcnd _
  have hval : ∀ (j : Nat) t v, Try.f4.params[j]? = some t → args[j]? = some v → Value.okWide Try.prog W .any base t v := hval0
  have hW' := hW
  obtain ⟨p, q, hA0, hV, rfl, hfz, hnd⟩ := hW
  have hA : DataW.TrodAll enc Try.prog W 0 (fun _ => true) true Try.f4.params.toList args.toList ds p := hA0
  rw [Try.params4] at hA hval
  obtain ⟨v0, vs0, d0, ds0, p0, q0, hargs, rfl, rfl, h0, r0⟩ := trodAll_cons hA
  obtain ⟨v1, vs1, d1, ds1, p1, q1, rfl, rfl, rfl, h1, r1⟩ := trodAll_cons r0
  obtain ⟨v2, vs2, d2, ds2, p2, q2, rfl, rfl, rfl, h2, r2⟩ := trodAll_cons r1
  obtain ⟨rfl, rfl, rfl⟩ := trodAll_nil r2
  obtain rfl : args = #[v0, v1, v2] := by cases args; simp_all
  obtain ⟨rfl, rfl⟩ := trodVars_none hV
  obtain ⟨a0, len0, cap0, rfl⟩ := okWide_slice Try.underlying26 (hval 0 26 v0 rfl rfl)
  have k0 := h0
  have lt0 : ∀ x ∈ p0, x.block < W.heap.size := by obtain ⟨m, hm⟩ := k0; exact DataW.trod_lt m _ _ _ hm
  obtain ⟨x0, w0⟩ : ∃ x, BytesAt W a0 len0 x ∧ len0 ≤ cap0 ∧ cap0 ≤ maxLen := open_bytes Try.underlying26 Try.underlying5 (by kernel_rfl) h0
  obtain ⟨a1, len1, cap1, rfl⟩ := okWide_slice Try.underlying26 (hval 1 26 v1 rfl rfl)
  have k1 := h1
  have lt1 : ∀ x ∈ p1, x.block < W.heap.size := by obtain ⟨m, hm⟩ := k1; exact DataW.trod_lt m _ _ _ hm
  obtain ⟨x1, w1⟩ : ∃ x, BytesAt W a1 len1 x ∧ len1 ≤ cap1 ∧ cap1 ≤ maxLen := open_bytes Try.underlying26 Try.underlying5 (by kernel_rfl) h1
  obtain ⟨a2, rfl, rfl, rfl, w2⟩ := open_int Try.underlying28 (hval 2 28 v2 rfl rfl) h2
  clear hA0 hval0
  refine (walk a0 len0 cap0 x0 a1 len1 cap1 x1 a2 W w0 w1 w2).mono fun e W' ⟨he, bel⟩ => ?_
  subst he
  exact ⟨_, rfl, _, _, _, [], _, [], hW', trodAll_mk1 (shut_bool Try.underlying4 _), (trodAll_cons_mk (Below.trod laidOut (by kernel_rfl) (of_decide_eq_true (by kernel_rfl)) k0 bel lt0) (trodAll_cons_mk (Below.trod laidOut (by kernel_rfl) (of_decide_eq_true (by kernel_rfl)) k1 bel lt1) (trodAll_cons_mk (shut_int Try.underlying28 w2) trodAll_mk0))), rfl, bel.frame _, fun h => by cases h⟩

theorem over : Rows.packCaughtRow.holds Try.pinned (OpenSpec.ofChange Rows.packCaughtSpec) :=
  OpenClaim.holds_of_wide 4 Try.f4 rfl rfl rfl rfl rfl rfl rfl ⟨rfl, rfl, rfl, rfl, rfl⟩ rfl rfl rfl rfl rfl (by kernel_rfl) Try.func4 (by kernel_rfl)
    (of_decide_eq_true (by kernel_rfl)) (by unfold Func.isWrapper; first | (rw [if_pos (by decide +kernel)]; kernel_rfl) | (rw [if_neg (by decide +kernel)]; exact ⟨rfl, rfl⟩))
    (fun os started H enc _ => lifted os started H enc)

theorem proved : Rows.PackCaughtSaid := over
end Go.Proofs.Ythlidbenhlidjaa.packCaught
namespace Go.Proofs.Ythlidbenhlidjaa
theorem packCaught_holds : Rows.PackCaughtSaid := packCaught.proved
#print axioms packCaught_holds
end Go.Proofs.Ythlidbenhlidjaa

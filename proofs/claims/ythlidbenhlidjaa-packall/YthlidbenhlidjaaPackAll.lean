/-
  Package pack's Packets answers as the document's does, whatever the frame, its bytes, the symbols' length, the ids and the numbers are (100 bytes and 12 ids at most are looked at; no condition).
-/
import Derived.Test.YthlidbenhlidjaaRows
import Derived.WalkKit
import Derived.ProofKit
import Derived.OpenShut
import Derived.ShutString
import Derived.ChangeOld
import Derived.Below
import Derived.Carry
import Derived.Test.YthlidbenhlidjaaOpn
import Derived.Test.YthlidbenhlidjaaOpf
import Derived.Test.YthlidbenhlidjaaPkb
import Derived.Test.YthlidbenhlidjaaHsm
import Derived.Test.YthlidbenhlidjaaLen
import Derived.Test.YthlidbenhlidjaaOpi
import Derived.Deep.RegionHeld
namespace Go.Proofs.Ythlidbenhlidjaa.packAll
open Go.ChangeShapes Go.WideShapes Go.ChangeAt Go.RowKit
open Go.ChangeMaps (open_string shut_string)
set_option linter.unusedVariables false

theorem own : ownKnob Try.prog.godebug = none := by kernel_rfl
theorem laidOut : laidOutB Try.prog = true := by kernel_rfl

open Go.Deep

set_option maxRecDepth 100000 in
set_option maxHeartbeats 400000 in
theorem none' (F : Fr) (a : Option Addr) (n c : Nat) (s : Int) (ia : Option Addr) (m ic : Nat) (q t : Int) (w : World) (h : ¬ (n ≤ 100 ∧ m ≤ 12)) :
    Calls Try.prog 3 #[F.val, .slice a n c, .int .i64 s, .slice ia m ic, .int .u16 q, .int .u16 t] w fun e w' => e = .returned (.bool true) ∧ Below w.heap.size w w' := by
  have B1 : Hid (Below w.heap.size w (w.alloc (.cells #[.int .u32 (F.id : Int), .int .i64 F.k, .slice F.a F.n F.c, .int .i64 F.s, .int .i64 F.p, .int .i64 F.d] 25))) := (Below.refl _ _).alloc (Nat.le_refl _) _
  unfold Fr.val
  go_enter Try.func3, Try.ntmps3
  go_wp2_with fail
  generalize (w.alloc (.cells #[.int .u32 (F.id : Int), .int .i64 F.k, .slice F.a F.n F.c, .int .i64 F.s, .int .i64 F.p, .int .i64 F.d] 25)) = w1 at *
  refine (begun15 _).mono ?_
  rintro e w2 ⟨rfl, b2⟩
  have HB : Hid (Below w.heap.size w w2) := B1.out.trans (b2.mono B1.out.size)
  clear b2 B1
  by_cases h1 : n ≤ 100
  · have h2 : decide (100 < (n : Int)) = false := by simp; omega
    have h3 : decide (12 < (m : Int)) = true := by simp; omega
    clear h h1
    go_wp2
    go_ret
    exact ⟨rfl, HB.out⟩
  · have h2 : decide (100 < (n : Int)) = true := by simp; omega
    clear h h1
    go_wp2
    go_ret
    exact ⟨rfl, HB.out⟩

set_option maxRecDepth 100000 in
set_option maxHeartbeats 2000000 in
theorem core (F : Fr) (a : Option Addr) (n c : Nat) (x : Nat → Nat) (s : Int) (ia : Option Addr) (m ic : Nat) (z : Nat → Int) (q t : Nat) (w : World) (hf : F.id < 4294967296) (hx : BytesAt w a n x) (hz : IntsAt w ia m z) (hq : q < 65536) (n1 : n ≤ 100) (m1 : m ≤ 12) :
    Calls Try.prog 3 #[F.val, .slice a n c, .int .i64 s, .slice ia m ic, .int .u16 (q : Int), .int .u16 (t : Int)] w fun e w' => e = .returned (.bool true) ∧ Below w.heap.size w w' := by
  have B1 : Hid (Below w.heap.size w (w.alloc (.cells #[.int .u32 (F.id : Int), .int .i64 F.k, .slice F.a F.n F.c, .int .i64 F.s, .int .i64 F.p, .int .i64 F.d] 25))) := (Below.refl _ _).alloc (Nat.le_refl _) _
  have F1 : Hid (FrAt (w.alloc (.cells #[.int .u32 (F.id : Int), .int .i64 F.k, .slice F.a F.n F.c, .int .i64 F.s, .int .i64 F.p, .int .i64 F.d] 25)) w.heap.size F) := FrAt.made w _ F
  have HX : Hid (BytesAt w a n x) := hx
  have HZ : Hid (IntsAt w ia m z) := hz
  have hn1 : decide (100 < (n : Int)) = false := by simp; omega
  have hm1 : decide (12 < (m : Int)) = false := by simp; omega
  clear hx hz
  unfold Fr.val
  go_enter Try.func3, Try.ntmps3
  go_wp2_with fail
  generalize (w.alloc (.cells #[.int .u32 (F.id : Int), .int .i64 F.k, .slice F.a F.n F.c, .int .i64 F.s, .int .i64 F.p, .int .i64 F.d] 25)) = w1 at *
  refine (begun15 _).mono ?_
  rintro e w2 ⟨rfl, b2⟩
  have HB2 : Hid (Below w.heap.size w w2) := B1.out.trans (b2.mono B1.out.size)
  have F2 : Hid (FrAt w2 w.heap.size F) := F1.out.grew b2
  clear b2 B1 F1
  obtain ⟨f0, f1, f2, f3, f4, f5, -⟩ := F2.out
  have B3 : Below w2.heap.size w2 (w2.alloc (.cells #[.int .i64 F.s, .int .i64 (n : Int)] 3)) := (Below.refl _ _).alloc (Nat.le_refl _) _
  have F3 : Hid (FrAt (w2.alloc (.cells #[.int .i64 F.s, .int .i64 (n : Int)] 3)) w.heap.size F) := F2.out.grew B3
  have HB3 : Hid (Below w.heap.size w (w2.alloc (.cells #[.int .i64 F.s, .int .i64 (n : Int)] 3))) := HB2.out.trans (B3.mono HB2.out.size)
  have HI3 : Hid (IntsAt (w2.alloc (.cells #[.int .i64 F.s, .int .i64 (n : Int)] 3)) (some ⟨w2.heap.size, 0, none⟩) 2 (lit2 F.s n)) := ints_two w2 F.s n
  have HNE : Hid (w2.heap.size ≠ w.heap.size) := Nat.ne_of_gt F2.out.lt
  clear B3 HB2 F2
  go_wp2_with fail
  generalize (w2.alloc (.cells #[.int .i64 F.s, .int .i64 (n : Int)] 3)) = w3 at *
  generalize w2.heap.size = sz at *
  clear f0 f1 f2 f3 f4 f5
  go_loopw [14] (fun i wr => ∃ (k : Nat) (σ : Int), i = .int .i64 k ∧ k ≤ 2 ∧ Hid (FrAt wr w.heap.size { F with s := σ }) ∧ Hid (Kept w.heap.size w3 wr)) (fun i _ => 2 - (intOf i).toNat)
  case atStart => exact ⟨0, F.s, rfl, by decide, F3, Kept.refl _ _⟩
  case round =>
    obtain ⟨k, σ, rfl, hk, hfr, hkp⟩ := hrel
    clear F3
    by_cases hk2 : k < 2
    case neg =>
      have k1 : decide ((k : Int) < 2) = false := by simp; omega
      have HE : Hid (Below w.heap.size w wr) := HB3.out.trans (hkp.out.below (Nat.le_refl _) HB3.out.size)
      go_wp2
      go_ret
      exact ⟨rfl, HE.out⟩
    have k1 : (k : Int) < 2 := by omega
    have c1 := hkp.out.cell (HI3.out.at k hk2) HNE.out
    rw [Nat.zero_add] at c1
    obtain ⟨σ1, hσ⟩ : ∃ y, y = lit2 F.s n k := ⟨_, rfl⟩
    rw [← hσ] at c1
    clear hσ
    obtain ⟨f0, f1, f2, f3, f4, f5, fz⟩ := hfr.out
    simp only at f3
    have fz3 := fz 3
    obtain ⟨w4, e4⟩ : ∃ y, wr.setCell ⟨w.heap.size, 3, none⟩ (.int .i64 σ1) = y := ⟨_, rfl⟩
    have F4 : Hid (FrAt w4 w.heap.size { F with s := σ1 }) := e4 ▸ hfr.out.resize σ1
    have K4 : Hid (Kept w.heap.size w3 w4) := hkp.out.trans (e4 ▸ Kept.set wr 3 _)
    have HB4 : Hid (Below w.heap.size w w4) := HB3.out.trans (K4.out.below (Nat.le_refl _) HB3.out.size)
    clear fz hfr hkp
    go_wp2_with fail
    clear e4 f0 f1 f2 f3 f4 f5 fz3 c1
    refine (lent_any a n c x _ (HX.out.below HB4.out (Nat.le_refl _)) (by omega)).mono ?_
    rintro e w5 ⟨rfl, L5, b5, -⟩
    have HL5 : Hid (BytesAt w5 (some ⟨w4.heap.size, 0, none⟩) (n + 5) (lentOf x n)) := L5
    have F5 : Hid (FrAt w5 w.heap.size { F with s := σ1 }) := F4.out.grew b5
    have K5 : Hid (Kept w.heap.size w3 w5) := K4.out.trans (Kept.of_below b5)
    have HB5 : Hid (Below w.heap.size w w5) := HB4.out.trans (b5.mono HB4.out.size)
    clear L5 b5 F4 K4 HB4
    generalize w4.heap.size = L at *
    obtain ⟨p, N, hN, -, hpk⟩ := packs_any true m n σ1 s z
    have HPK : Hid (∀ (w : World) (q t f : Nat) (x : Nat → Nat) (e : Ending) (w' : World), PacksIs w true m q t f n σ1 s x z e w' → ∃ r cap K, e = .returned (.tuple #[.slice r N cap, .bool p]) ∧ Pks w' N q t f n s.toNat x z r K ∧ Below w.heap.size w w') := hpk
    clear hpk
    go_wp2_with fail
    refine wp_region_held (S := fun W => Below w5.heap.size w5 W) (by kernel_rfl) ?_
    change wpAnyH _ _ _ _ _ _ _ _ w5.drew
    have hr : Below w5.heap.size w5 w5.drew := below_drews 1
    generalize w5.drew = w6 at *
    refine wpAnyH_take (i := 1) (v := .agg #[.int .u32 (F.id : Int), .int .i64 F.k, .slice F.a F.n F.c, .int .i64 σ1, .int .i64 F.p, .int .i64 F.d]) rfl (by kernel_rfl) (by kernel_rfl) (by kernel_rfl) (fun _ _ _ h => h) (Or.inl ⟨by kernel_rfl, fun W hW => by obtain ⟨g0, g1, g2, g3, g4, g5, -⟩ := F5.out.grew hW; simp only at g0 g1 g2 g3 g4 g5; go_simp⟩) hr ?_
    refine wpAnyH_take (i := 2) (v := .slice (some ⟨L, 0, none⟩) n (n + 5)) rfl (by kernel_rfl) (by kernel_rfl) (by kernel_rfl) (fun _ _ _ h => h) (Yields.yieldsIf (Or.inl ⟨by kernel_rfl, fun _ => by kernel_rfl⟩)) hr ?_
    refine wpAnyH_take (i := 3) (v := .int .i64 s) rfl (by kernel_rfl) (by kernel_rfl) (by kernel_rfl) (fun _ _ _ h => h) (Yields.yieldsIf (Or.inl ⟨by kernel_rfl, fun _ => by kernel_rfl⟩)) hr ?_
    refine wpAnyH_take (i := 4) (v := .slice ia m ic) rfl (by kernel_rfl) (by kernel_rfl) (by kernel_rfl) (fun _ _ _ h => h) (Yields.yieldsIf (Or.inl ⟨by kernel_rfl, fun _ => by kernel_rfl⟩)) hr ?_
    refine wpAnyH_take (i := 5) (v := .int .u16 (q : Int)) rfl (by kernel_rfl) (by kernel_rfl) (by kernel_rfl) (fun _ _ _ h => h) (Yields.yieldsIf (Or.inl ⟨by kernel_rfl, fun _ => by kernel_rfl⟩)) hr ?_
    refine wpAnyH_take (i := 6) (v := .int .u16 (t : Int)) rfl (by kernel_rfl) (by kernel_rfl) (by kernel_rfl) (fun _ _ _ h => h) (Yields.yieldsIf (Or.inl ⟨by kernel_rfl, fun _ => by kernel_rfl⟩)) hr ?_
    refine wpAnyH_ready (rs := [0]) (by kernel_rfl) (by simp) ?_
    refine AllReadyH.cons rfl (fun K2 hK2 => ?_) AllReadyH.nil
    go_simp
    refine Calls.mono (new_any _) ?_
    rintro e w7 ⟨rfl, bb, HF, -⟩
    have hr := hr.trans (bb.mono hr.size)
    refine hK2.out _ _ hr (fun hr => ?_)
    clear hK2 K2 bb
    refine wpAnyH_ready (rs := [7]) (by kernel_rfl) (by simp) ?_
    refine AllReadyH.cons rfl (fun K2 hK2 => ?_) AllReadyH.nil
    go_simp
    have XL : BytesAt w7 (some ⟨L, 0, none⟩) n x := ((HL5.out.grew hr).take (by omega)).congr fun i hi => by unfold lentOf; rw [if_pos hi]
    refine Calls.mono (packets_is _ true { F with s := σ1 } _ _ n _ s ia m ic q t _ _ z x w7 rfl rfl rfl (FldIs.mk' HF) XL (HZ.out.below (HB5.out.trans (hr.mono HB5.out.size)) (Nat.le_refl _)) (by omega) (by omega) hf hq) ?_
    rintro e w8 hp
    obtain ⟨r1, cap1, K1, rfl, P1, b1⟩ := HPK.out _ _ _ _ _ _ _ hp
    have hr := hr.trans (b1.mono hr.size)
    have HP1 : Hid (Pks w8 N q t F.id n s.toNat x z r1 K1) := P1
    refine hK2.out _ _ hr (fun hr => ?_)
    clear hK2 K2 hp P1 b1 XL HF
    refine wpAnyH_take (i := 8) (v := .tuple #[.slice r1 N cap1, .bool p]) rfl (by kernel_rfl) (by kernel_rfl) (by kernel_rfl) (fun _ _ _ h => h) (Yields.yieldsIf (Or.inl ⟨by kernel_rfl, fun _ => by kernel_rfl⟩)) hr ?_
    refine wpAnyH_take (i := 9) (v := .slice r1 N cap1) rfl (by kernel_rfl) (by kernel_rfl) (by kernel_rfl) (fun _ _ _ h => h) (Yields.yieldsIf (Or.inl ⟨by kernel_rfl, fun _ => by go_simp⟩)) hr ?_
    refine wpAnyH_take (i := 10) (v := .bool p) rfl (by kernel_rfl) (by kernel_rfl) (by kernel_rfl) (fun _ _ _ h => h) (Yields.yieldsIf (Or.inl ⟨by kernel_rfl, fun _ => by go_simp⟩)) hr ?_
    refine wpAnyH_take (i := 11) (v := .slice r1 N cap1) rfl (by kernel_rfl) (by kernel_rfl) (by kernel_rfl) (fun _ _ _ h => h) (Yields.yieldsIf (Or.inl ⟨by kernel_rfl, fun _ => by kernel_rfl⟩)) hr ?_
    refine wpAnyH_take (i := 12) (v := .bool p) rfl (by kernel_rfl) (by kernel_rfl) (by kernel_rfl) (fun _ _ _ h => h) (Yields.yieldsIf (Or.inl ⟨by kernel_rfl, fun _ => by kernel_rfl⟩)) hr ?_
    refine wpAnyH_done (by kernel_rfl) ?_ _
    have F8 : Hid (FrAt w8 w.heap.size { F with s := σ1 }) := F5.out.grew hr
    have K8 : Hid (Kept w.heap.size w3 w8) := K5.out.trans (Kept.of_below hr)
    have HB8 : Hid (Below w.heap.size w w8) := HB5.out.trans (hr.mono HB5.out.size)
    have HL8 : Hid (BytesAt w8 (some ⟨L, 0, none⟩) (n + 5) (lentOf x n)) := HL5.out.grew hr
    clear F5 K5 HB5 HL5 hr
    obtain ⟨f0, f1, f2, f3, f4, f5, -⟩ := F8.out
    simp only at f0 f1 f2 f3 f4 f5
    go_wp2_with fail
    clear f0 f1 f2 f3 f4 f5
    refine (rpackets_is { F with s := σ1 } _ a n c s ia m ic q t z x w8 rfl (HX.out.below HB8.out (Nat.le_refl _)) (HZ.out.below HB8.out (Nat.le_refl _)) (by omega) hf hq).mono ?_
    rintro e w9 hp
    obtain ⟨r2, cap2, K2, rfl, P2, b2⟩ := HPK.out _ _ _ _ _ _ _ hp
    have HP2 : Hid (Pks w9 N q t F.id n s.toNat x z r2 K2) := P2
    have HP1 : Hid (Pks w9 N q t F.id n s.toNat x z r1 K1) := HP1.out.grew b2
    have F9 : Hid (FrAt w9 w.heap.size { F with s := σ1 }) := F8.out.grew b2
    have K9 : Hid (Kept w.heap.size w3 w9) := K8.out.trans (Kept.of_below b2)
    have HB9 : Hid (Below w.heap.size w w9) := HB8.out.trans (b2.mono HB8.out.size)
    have HL9 : Hid (BytesAt w9 (some ⟨L, 0, none⟩) (n + 5) (lentOf x n)) := HL8.out.grew b2
    have epp : (p != p) = false := by simp
    have eNN : ((N : Int) != (N : Int)) = false := by simp
    clear hp P2 b2 F8 K8 HB8 HL8 HPK
    go_wp2_with fail
    refine (whole_any a L n c x _ HL9.out (HX.out.below HB9.out (Nat.le_refl _)) (by omega)).mono ?_
    rintro e wz ⟨rfl, hw⟩
    have hw := hw.symm
    subst hw
    clear HL9 epp eNN
    go_wp2_with fail
    generalize wr = wo at *
    go_loopw [20] (fun i wr => ∃ j : Nat, j ≤ N ∧ i = .int .i64 j ∧ Hid (Below w9.heap.size w9 wr)) (fun i _ => N - (intOf i).toNat)
    case atStart => exact ⟨0, Nat.zero_le _, rfl, Below.refl _ _⟩
    case round =>
      obtain ⟨j, hj, rfl, hbl⟩ := hrel
      by_cases hjN : j < N
      case neg =>
        have j1 : decide ((j : Int) < (N : Int)) = false := by simp; omega
        have FE : Hid (FrAt wr w.heap.size { F with s := σ1 }) := F9.out.grew hbl.out
        have KE : Hid (Kept w.heap.size w3 wr) := K9.out.trans (Kept.of_below hbl.out)
        clear hbl
        go_wp2_with fail
        go_roundw
        case rel => exact ⟨k + 1, σ1, by go_num, by omega, FE, KE⟩
        case measure => simp [intOf]; omega
      have j1 : (j : Int) < (N : Int) := by omega
      obtain ⟨ba, oa, rfl⟩ := HP1.out.addr (by omega)
      obtain ⟨bb, ob, rfl⟩ := HP2.out.addr (by omega)
      obtain ⟨a1, ca1, p0, p1, p2, p3, p4, X1⟩ := (HP1.out.grew hbl.out).at j hjN
      obtain ⟨a2, ca2, q0, q1, q2, q3, q4, X2⟩ := (HP2.out.grew hbl.out).at j hjN
      have HX1 : Hid (BytesAt wr a1 s.toNat (symOf F.id x n s.toNat (z j).toNat)) := X1
      have HX2 : Hid (BytesAt wr a2 s.toNat (symOf F.id x n s.toNat (z j).toNat)) := X2
      clear X1 X2
      generalize (q + j) % 65536 = qj at *
      generalize symOf F.id x n s.toNat (z j).toNat = Y at *
      generalize (z j).toNat = Z at *
      generalize s.toNat = S at *
      have HC : Hid (wr.cell? ⟨ba, oa + j * 5, none⟩ = some (.int .u16 (qj : Int)) ∧ wr.cell? ⟨ba, oa + j * 5 + 1, none⟩ = some (.int .u16 (t : Int)) ∧ wr.cell? ⟨ba, oa + j * 5 + 2, none⟩ = some (.int .u32 (F.id : Int)) ∧ wr.cell? ⟨ba, oa + j * 5 + 3, none⟩ = some (.int .u16 (Z : Int)) ∧ wr.cell? ⟨ba, oa + j * 5 + 4, none⟩ = some (.slice a1 S ca1)) := ⟨p0, p1, p2, p3, p4⟩
      have HD : Hid (wr.cell? ⟨bb, ob + j * 5, none⟩ = some (.int .u16 (qj : Int)) ∧ wr.cell? ⟨bb, ob + j * 5 + 1, none⟩ = some (.int .u16 (t : Int)) ∧ wr.cell? ⟨bb, ob + j * 5 + 2, none⟩ = some (.int .u32 (F.id : Int)) ∧ wr.cell? ⟨bb, ob + j * 5 + 3, none⟩ = some (.int .u16 (Z : Int)) ∧ wr.cell? ⟨bb, ob + j * 5 + 4, none⟩ = some (.slice a2 S ca2)) := ⟨q0, q1, q2, q3, q4⟩
      clear p0 p1 p2 p3 p4 q0 q1 q2 q3 q4
      go_wp2_with fail
      refine wp_region_held (S := fun W => Below wr.heap.size wr W) (by kernel_rfl) ?_
      change wpAnyH _ _ _ _ _ _ _ _ wr.drew
      have hr : Below wr.heap.size wr wr.drew := below_drews 1
      generalize wr.drew = w6 at *
      refine wpAnyH_take (i := 0) (v := .slice (some ⟨ba, oa, none⟩) N cap1) rfl (by kernel_rfl) (by kernel_rfl) (by kernel_rfl) (fun _ _ _ h => h) (Yields.yieldsIf (Or.inl ⟨by kernel_rfl, fun _ => by kernel_rfl⟩)) hr ?_
      refine wpAnyH_take (i := 1) (v := .int .i64 (j : Int)) rfl (by kernel_rfl) (by kernel_rfl) (by kernel_rfl) (fun _ _ _ h => h) (Yields.yieldsIf (Or.inl ⟨by kernel_rfl, fun _ => by kernel_rfl⟩)) hr ?_
      refine wpAnyH_take (i := 2) (v := .pointer (some ⟨ba, oa + j * 5, none⟩)) rfl (by kernel_rfl) (by kernel_rfl) (by kernel_rfl) (fun _ _ _ h => h) (Yields.yieldsIf (Or.inl ⟨by kernel_rfl, fun _ => by go_simp⟩)) hr ?_
      refine wpAnyH_take (i := 3) (v := .agg #[.int .u16 (qj : Int), .int .u16 (t : Int), .int .u32 (F.id : Int), .int .u16 (Z : Int), .slice a1 S ca1]) rfl (by kernel_rfl) (by kernel_rfl) (by kernel_rfl) (fun _ _ _ h => h) (Or.inl ⟨by kernel_rfl, fun W hW => by obtain ⟨p0, p1, p2, p3, p4⟩ := HC.out; have lb := cell_lt p0; have g0 := (hW.cell (p := ⟨ba, oa + j * 5, none⟩) lb).trans p0; have g1 := (hW.cell (p := ⟨ba, oa + j * 5 + 1, none⟩) lb).trans p1; have g2 := (hW.cell (p := ⟨ba, oa + j * 5 + 2, none⟩) lb).trans p2; have g3 := (hW.cell (p := ⟨ba, oa + j * 5 + 3, none⟩) lb).trans p3; have g4 := (hW.cell (p := ⟨ba, oa + j * 5 + 4, none⟩) lb).trans p4; clear p0 p1 p2 p3 p4 lb; go_simp⟩) hr ?_
      refine wpAnyH_take (i := 4) (v := .slice (some ⟨bb, ob, none⟩) N cap2) rfl (by kernel_rfl) (by kernel_rfl) (by kernel_rfl) (fun _ _ _ h => h) (Yields.yieldsIf (Or.inl ⟨by kernel_rfl, fun _ => by kernel_rfl⟩)) hr ?_
      refine wpAnyH_take (i := 5) (v := .int .i64 (j : Int)) rfl (by kernel_rfl) (by kernel_rfl) (by kernel_rfl) (fun _ _ _ h => h) (Yields.yieldsIf (Or.inl ⟨by kernel_rfl, fun _ => by kernel_rfl⟩)) hr ?_
      refine wpAnyH_take (i := 6) (v := .pointer (some ⟨bb, ob + j * 5, none⟩)) rfl (by kernel_rfl) (by kernel_rfl) (by kernel_rfl) (fun _ _ _ h => h) (Yields.yieldsIf (Or.inl ⟨by kernel_rfl, fun _ => by go_simp⟩)) hr ?_
      refine wpAnyH_take (i := 7) (v := .agg #[.int .u16 (qj : Int), .int .u16 (t : Int), .int .u32 (F.id : Int), .int .u16 (Z : Int), .slice a2 S ca2]) rfl (by kernel_rfl) (by kernel_rfl) (by kernel_rfl) (fun _ _ _ h => h) (Or.inl ⟨by kernel_rfl, fun W hW => by obtain ⟨p0, p1, p2, p3, p4⟩ := HD.out; have lb := cell_lt p0; have g0 := (hW.cell (p := ⟨bb, ob + j * 5, none⟩) lb).trans p0; have g1 := (hW.cell (p := ⟨bb, ob + j * 5 + 1, none⟩) lb).trans p1; have g2 := (hW.cell (p := ⟨bb, ob + j * 5 + 2, none⟩) lb).trans p2; have g3 := (hW.cell (p := ⟨bb, ob + j * 5 + 3, none⟩) lb).trans p3; have g4 := (hW.cell (p := ⟨bb, ob + j * 5 + 4, none⟩) lb).trans p4; clear p0 p1 p2 p3 p4 lb; go_simp⟩) hr ?_
      refine wpAnyH_ready (rs := [8]) (by kernel_rfl) (by simp) ?_
      refine AllReadyH.cons rfl (fun K2 hK2 => ?_) AllReadyH.nil
      go_simp
      refine Calls.mono (same_any qj t F.id Z S a1 a2 ca1 ca2 Y w6 (HX1.out.grew hr) (HX2.out.grew hr)) ?_
      rintro e w7 ⟨rfl, b7⟩
      have hr := hr.trans (b7.mono hr.size)
      refine hK2.out _ _ hr (fun hr => ?_)
      clear hK2 b7
      refine wpAnyH_take (i := 9) (v := .bool false) rfl (by kernel_rfl) (by kernel_rfl) (by kernel_rfl) (fun _ _ _ h => h) (Yields.yieldsIf (Or.inl ⟨by kernel_rfl, fun _ => by go_simp⟩)) hr ?_
      refine wpAnyH_done (by kernel_rfl) ?_ _
      have HBE : Hid (Below w9.heap.size w9 w7) := hbl.out.trans (hr.mono hbl.out.size)
      clear hr hbl HX1 HX2 HC HD
      go_wp2_with fail
      go_roundw
      case rel => exact ⟨j + 1, by omega, by go_num, HBE⟩
      case measure => simp [intOf]; omega

theorem walk (F : Fr) (r : Nat → Int) (a : Option Addr) (n c : Nat) (x : Nat → Nat) (s : Int) (ia : Option Addr) (m ic : Nat) (z : Nat → Int) (q t : Int) (w : World) (h0 : FrIn w F r) (h1 : BytesAt w a n x ∧ n ≤ c ∧ c ≤ maxLen) (_ : (Lit.int .i64 s).wf = true) (h3 : IntsAt w ia m z ∧ m ≤ ic ∧ ic ≤ maxLen) (h4 : (Lit.int .u16 q).wf = true) (h5 : (Lit.int .u16 t).wf = true) :
    Calls Try.prog 3 #[F.val, .slice a n c, .int .i64 s, .slice ia m ic, .int .u16 q, .int .u16 t] w fun e w' => e = .returned (.bool true) ∧ Below w.heap.size w w' := by
  have b4 := bounds_u16 h4
  have b5 := bounds_u16 h5
  obtain ⟨q, rfl⟩ : ∃ n : Nat, q = n := ⟨q.toNat, by omega⟩
  obtain ⟨t, rfl⟩ : ∃ n : Nat, t = n := ⟨t.toNat, by omega⟩
  by_cases h : n ≤ 100 ∧ m ≤ 12
  · exact core F a n c x s ia m ic z q t w h0.1 h1.1 h3.1 (by omega) h.1 h.2
  · exact none' F a n c s ia m ic q t w h

set_option maxRecDepth 100000 in
theorem lifted (os : Os) (started : os.Started) (H : Type) (enc : TypeId × Value → H) :
    ReturnsInHanded {} Try.checked os 3 .any (Rows.packAllSpec.pre6 enc Try.prog Try.f3 Rows.packAllRow.domain false) (Rows.packAllSpec.post enc Try.prog Try.f3 false true false false) := by
  refine returnsInHanded_of_change (C := Try.checked) own started (by kernel_rfl) Try.func3
    (ChangeSpec.witness6 (enc := enc) (C := Try.checked) false ⟨#[], #[.agg #[.int .u32 0, .int .i64 0, .slice none 0 0, .int .i64 0, .int .i64 0, .int .i64 0], .slice none 0 0, .int .i64 0, .slice none 0 0, .int .u16 0, .int .u16 0], []⟩ 8 (by kernel_rfl) (by kernel_rfl) (by kernel_rfl) (by kernel_rfl)) ?_
  intro W base args ds gs before hval0 hW hcnd _
  have hval : ∀ (j : Nat) t v, Try.f3.params[j]? = some t → args[j]? = some v → Value.okWide Try.prog W .any base t v := hval0
  have hW' := hW
  obtain ⟨p, q, hA0, hV, rfl, hfz, hnd⟩ := hW
  have hA : DataW.TrodAll enc Try.prog W 0 (fun _ => true) true Try.f3.params.toList args.toList ds p := hA0
  rw [Try.params3] at hA hval
  obtain ⟨v0, vs0, d0, ds0, p0, q0, hargs, rfl, rfl, h0, r0⟩ := trodAll_cons hA
  obtain ⟨v1, vs1, d1, ds1, p1, q1, rfl, rfl, rfl, h1, r1⟩ := trodAll_cons r0
  obtain ⟨v2, vs2, d2, ds2, p2, q2, rfl, rfl, rfl, h2, r2⟩ := trodAll_cons r1
  obtain ⟨v3, vs3, d3, ds3, p3, q3, rfl, rfl, rfl, h3, r3⟩ := trodAll_cons r2
  obtain ⟨v4, vs4, d4, ds4, p4, q4, rfl, rfl, rfl, h4, r4⟩ := trodAll_cons r3
  obtain ⟨v5, vs5, d5, ds5, p5, q5, rfl, rfl, rfl, h5, r5⟩ := trodAll_cons r4
  obtain ⟨rfl, rfl, rfl⟩ := trodAll_nil r5
  obtain rfl : args = #[v0, v1, v2, v3, v4, v5] := by cases args; simp_all
  obtain ⟨rfl, rfl⟩ := trodVars_none hV
  have k0 := h0
  have lt0 : ∀ x ∈ p0, x.block < W.heap.size := by obtain ⟨m, hm⟩ := k0; exact DataW.trod_lt m _ _ _ hm
  obtain ⟨F0, Z0, rfl, w0⟩ := open_frame (hval 0 25 v0 rfl rfl) h0
  obtain ⟨a1, len1, cap1, rfl⟩ := okWide_slice Try.underlying26 (hval 1 26 v1 rfl rfl)
  have k1 := h1
  have lt1 : ∀ x ∈ p1, x.block < W.heap.size := by obtain ⟨m, hm⟩ := k1; exact DataW.trod_lt m _ _ _ hm
  obtain ⟨x1, w1⟩ : ∃ x, BytesAt W a1 len1 x ∧ len1 ≤ cap1 ∧ cap1 ≤ maxLen := open_bytes Try.underlying26 Try.underlying5 (by kernel_rfl) h1
  obtain ⟨a2, rfl, rfl, rfl, w2⟩ := open_int Try.underlying3 (hval 2 3 v2 rfl rfl) h2
  obtain ⟨a3, len3, cap3, rfl⟩ := okWide_slice Try.underlying27 (hval 3 27 v3 rfl rfl)
  have k3 := h3
  have lt3 : ∀ x ∈ p3, x.block < W.heap.size := by obtain ⟨m, hm⟩ := k3; exact DataW.trod_lt m _ _ _ hm
  obtain ⟨x3, w3⟩ := open_ints Try.underlying27 Try.underlying3 (by kernel_rfl) h3
  obtain ⟨a4, rfl, rfl, rfl, w4⟩ := open_int Try.underlying28 (hval 4 28 v4 rfl rfl) h4
  obtain ⟨a5, rfl, rfl, rfl, w5⟩ := open_int Try.underlying28 (hval 5 28 v5 rfl rfl) h5
  clear hA0 hval0
  refine (walk F0 Z0 a1 len1 cap1 x1 a2 a3 len3 cap3 x3 a4 a5 W w0 w1 w2 w3 w4 w5).mono fun e W' ⟨he, bel⟩ => ?_
  subst he
  exact ⟨_, rfl, _, _, _, [], _, [], hW', trodAll_mk1 (shut_bool Try.underlying4 _), (trodAll_cons_mk (Below.trod laidOut (by kernel_rfl) (of_decide_eq_true (by kernel_rfl)) k0 bel lt0) (trodAll_cons_mk (Below.trod laidOut (by kernel_rfl) (of_decide_eq_true (by kernel_rfl)) k1 bel lt1) (trodAll_cons_mk (shut_int Try.underlying3 w2) (trodAll_cons_mk (Below.trod laidOut (by kernel_rfl) (of_decide_eq_true (by kernel_rfl)) k3 bel lt3) (trodAll_cons_mk (shut_int Try.underlying28 w4) (trodAll_cons_mk (shut_int Try.underlying28 w5) trodAll_mk0)))))), rfl, bel.frame _, fun h => by cases h⟩

theorem over : Rows.packAllRow.holds Try.pinned (OpenSpec.ofChange Rows.packAllSpec) :=
  OpenClaim.holds_of_wide 3 Try.f3 rfl rfl rfl rfl rfl rfl rfl ⟨rfl, rfl, rfl, rfl, rfl⟩ rfl rfl rfl rfl rfl (by kernel_rfl) Try.func3 (by kernel_rfl)
    (of_decide_eq_true (by kernel_rfl)) (by unfold Func.isWrapper; first | (rw [if_pos (by decide +kernel)]; kernel_rfl) | (rw [if_neg (by decide +kernel)]; exact ⟨rfl, rfl⟩))
    (fun os started H enc _ => lifted os started H enc)

theorem proved : Rows.PackAllSaid := over
end Go.Proofs.Ythlidbenhlidjaa.packAll
namespace Go.Proofs.Ythlidbenhlidjaa
theorem packAll_holds : Rows.PackAllSaid := packAll.proved
#print axioms packAll_holds
end Go.Proofs.Ythlidbenhlidjaa

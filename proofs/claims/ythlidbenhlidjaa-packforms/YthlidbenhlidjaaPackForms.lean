/-
  Some frames' packets, by hand: the call returns true (a closed statement).
-/
import Derived.Test.YthlidbenhlidjaaRows
import Derived.WalkKit
import Derived.ProofKit
import Derived.OpenShut
import Derived.ShutString
import Derived.Test.YthlidbenhlidjaaPkb
import Derived.Deep.RegionHeld
import Derived.ChangeOld
import Derived.Below
namespace Go.Proofs.Ythlidbenhlidjaa.packForms
open Go.ChangeShapes Go.WideShapes Go.ChangeAt Go.RowKit
open Go.ChangeMaps (open_string shut_string)
set_option linter.unusedVariables false      -- a walk need not use every 'w<i>' (that an integer argument fits its kind)

theorem own : ownKnob Try.prog.godebug = none := by kernel_rfl

open Go.Deep

def frC : Fr := ⟨1, 1, none, 0, 0, 3, 0, 0⟩
/-- A field, a frame and its bytes in memory. -/
structure Cl (w : World) (p R B : Nat) (W : World) : Prop where
  fld : FieldAt W p
  fr : FrAt W R frC
  txt : BytesAt W (some ⟨B, 0, none⟩) 3 (listAt [97, 98, 99])
  bel : Below w.heap.size w W
theorem Cl.grew {w W W' : World} {p R B : Nat} (h : Cl w p R B W) (hb : Below W.heap.size W W') : Cl w p R B W' :=
  ⟨h.fld.below hb h.fld.lt, h.fr.grew hb, h.txt.grew hb, h.bel.trans (hb.mono h.bel.size)⟩
theorem ints_one (w : World) (x : Int) : IntsAt (w.alloc (.cells #[.int .i64 x] 3)) (some ⟨w.heap.size, 0, none⟩) 1 (fun _ => x) := fun _ => ⟨w.heap.size, 0, rfl, fun i hi => by
  obtain rfl : i = 0 := by omega
  rw [World.cell?_alloc_at _ _ _ _ rfl]; rfl⟩
def lit3 (x y z : Int) (i : Nat) : Int := if i = 0 then x else if i = 1 then y else z
theorem ints_three (w : World) (x y z : Int) : IntsAt (w.alloc (.cells #[.int .i64 x, .int .i64 y, .int .i64 z] 3)) (some ⟨w.heap.size, 0, none⟩) 3 (lit3 x y z) := fun _ => ⟨w.heap.size, 0, rfl, fun i hi => by
  rw [World.cell?_alloc_at _ _ _ _ rfl, Nat.zero_add]
  have : i = 0 ∨ i = 1 ∨ i = 2 := by omega
  rcases this with rfl | rfl | rfl <;> rfl⟩

set_option maxRecDepth 100000 in
set_option maxHeartbeats 4000000 in
theorem walk (w : World) : Calls Try.prog 5 #[] w fun e w' => e = .returned (.bool true) ∧ Below w.heap.size w w' := by
  have hcv := conv_const
  go_enter Try.func5, Try.ntmps5
  go_wp2_with fail
  refine (begun15 _).mono ?_
  rintro e w1 ⟨rfl, b1⟩
  go_wp2_with fail
  refine (new_any _).mono ?_
  rintro e w2 ⟨rfl, b2, F2, -⟩
  have B2 := b1.trans (b2.mono b1.size)
  have b3 : Below w2.heap.size w2 (w2.alloc (.cells #[.int .u32 1, .int .i64 1, .slice none 0 0, .int .i64 3, .int .i64 0, .int .i64 0] 25)) := (Below.refl _ _).alloc (Nat.le_refl _) _
  have R3 : FrAt (w2.alloc (.cells #[.int .u32 1, .int .i64 1, .slice none 0 0, .int .i64 3, .int .i64 0, .int .i64 0] 25)) w2.heap.size frC := FrAt.made w2 _ frC
  have F3 := F2.below b3 F2.lt
  have B3 := B2.trans (b3.mono B2.size)
  have HF3 : Hid (FieldAt (w2.alloc (.cells #[.int .u32 1, .int .i64 1, .slice none 0 0, .int .i64 3, .int .i64 0, .int .i64 0] 25)) w1.heap.size) := F3
  have HR3 : Hid (FrAt (w2.alloc (.cells #[.int .u32 1, .int .i64 1, .slice none 0 0, .int .i64 3, .int .i64 0, .int .i64 0] 25)) w2.heap.size frC) := R3
  have HB3 : Hid (Below w.heap.size w (w2.alloc (.cells #[.int .u32 1, .int .i64 1, .slice none 0 0, .int .i64 3, .int .i64 0, .int .i64 0] 25))) := B3
  clear b1 b2 F2 B2 b3 R3 F3 B3
  go_wp2_with fail
  have hsz : (w2.alloc (.cells #[.int .u32 1, .int .i64 1, .slice none 0 0, .int .i64 3, .int .i64 0, .int .i64 0] 25)).heap.size = w2.heap.size + 1 := by simp
  have X4 : BytesAt ((w2.alloc (.cells #[.int .u32 1, .int .i64 1, .slice none 0 0, .int .i64 3, .int .i64 0, .int .i64 0] 25)).alloc (.cells #[.int .u8 97, .int .u8 98, .int .u8 99] 5 (3, 4))) (some ⟨(w2.alloc (.cells #[.int .u32 1, .int .i64 1, .slice none 0 0, .int .i64 3, .int .i64 0, .int .i64 0] 25)).heap.size, 0, none⟩) 3 (listAt [97, 98, 99]) := bytes_lit (w2.alloc (.cells #[.int .u32 1, .int .i64 1, .slice none 0 0, .int .i64 3, .int .i64 0, .int .i64 0] 25)) _ _ [97, 98, 99] (by decide)
  rw [hsz] at X4
  have HX4 : Hid (BytesAt ((w2.alloc (.cells #[.int .u32 1, .int .i64 1, .slice none 0 0, .int .i64 3, .int .i64 0, .int .i64 0] 25)).alloc (.cells #[.int .u8 97, .int .u8 98, .int .u8 99] 5 (3, 4))) (some ⟨w2.heap.size + 1, 0, none⟩) 3 (listAt [97, 98, 99])) := X4
  clear X4 hsz
  generalize (w2.alloc (.cells #[.int .u32 1, .int .i64 1, .slice none 0 0, .int .i64 3, .int .i64 0, .int .i64 0] 25)) = w3 at *
  generalize w1.heap.size = p at *
  generalize w2.heap.size + 1 = B at *
  generalize w2.heap.size = R at *
  have H4 : Hid (Cl w p R B (w3.alloc (.cells #[.int .u8 97, .int .u8 98, .int .u8 99] 5 (3, 4)))) :=
    ⟨HF3.out.below ((Below.refl _ _).alloc (Nat.le_refl _) _) HF3.out.lt, HR3.out.grew ((Below.refl _ _).alloc (Nat.le_refl _) _), HX4.out, HB3.out.trans (((Below.refl _ _).alloc (Nat.le_refl _) _).mono HB3.out.size)⟩
  clear HF3 HR3 HB3 HX4
  generalize (w3.alloc (.cells #[.int .u8 97, .int .u8 98, .int .u8 99] 5 (3, 4))) = w4 at *
  refine (packets_is _ true frC _ _ 3 _ 2 _ 0 _ 5 6 _ _ (fun _ => 0) (listAt [97, 98, 99]) _ rfl rfl rfl (FldIs.mk' H4.out.fld) H4.out.txt (IntsAt.nil _ _) (by decide) (by decide) (by decide) (by decide)).mono ?_
  rintro e w5 hp
  obtain ⟨v4, K4, rfl, hds, htl, bb⟩ := hp.yes rfl (fun i hi => absurd hi (by omega))
  obtain ⟨r4, cap4, rfl, -⟩ := hds.row.any
  have H5 : Hid (Cl w p R B w5) := H4.out.grew bb
  clear hds htl
  clear hp bb H4
  obtain ⟨f0, f1, f2, f3, f4, f5, -⟩ := H5.out.fr
  simp only [frC] at f0 f1 f2 f3 f4 f5
  have HA5 : Hid (Cl w p R B (w5.alloc (.cells #[.int .i64 0, .int .i64 66] 3))) := H5.out.grew ((Below.refl _ _).alloc (Nat.le_refl _) _)
  have HI5 : Hid (IntsAt (w5.alloc (.cells #[.int .i64 0, .int .i64 66] 3)) (some ⟨w5.heap.size, 0, none⟩) 2 (lit2 0 66)) := ints_two w5 (0) (66)
  have HG5 : Hid (Below w5.heap.size w5 (w5.alloc (.cells #[.int .i64 0, .int .i64 66] 3))) := (Below.refl _ _).alloc (Nat.le_refl _) _
  go_wp2_with fail
  clear f0 f1 f2 f3 f4 f5
  generalize (w5.alloc (.cells #[.int .i64 0, .int .i64 66] 3)) = x5 at *
  refine (packets_is _ true frC _ _ 3 _ 2 _ 2 _ 5 6 _ _ (lit2 0 66) (listAt [97, 98, 99]) _ rfl rfl rfl (FldIs.mk' HA5.out.fld) HA5.out.txt HI5.out (by decide) (by decide) (by decide) (by decide)).mono ?_
  rintro e w6 hp
  obtain ⟨rfl, bb⟩ := hp.no (fun h => absurd (h.2 1 (by decide)) (by decide +kernel))
  have H6 : Hid (Cl w p R B w6) := HA5.out.grew bb
  clear hp bb H5 HA5 HI5 HG5
  obtain ⟨f0, f1, f2, f3, f4, f5, -⟩ := H6.out.fr
  simp only [frC] at f0 f1 f2 f3 f4 f5
  have HA6 : Hid (Cl w p R B (w6.alloc (.cells #[.int .i64 (-1)] 3))) := H6.out.grew ((Below.refl _ _).alloc (Nat.le_refl _) _)
  have HI6 : Hid (IntsAt (w6.alloc (.cells #[.int .i64 (-1)] 3)) (some ⟨w6.heap.size, 0, none⟩) 1 (fun _ => -1)) := ints_one w6 (-1)
  have HG6 : Hid (Below w6.heap.size w6 (w6.alloc (.cells #[.int .i64 (-1)] 3))) := (Below.refl _ _).alloc (Nat.le_refl _) _
  go_wp2_with fail
  clear f0 f1 f2 f3 f4 f5
  generalize (w6.alloc (.cells #[.int .i64 (-1)] 3)) = x6 at *
  refine (packets_is _ true frC _ _ 3 _ 2 _ 1 _ 5 6 _ _ (fun _ => -1) (listAt [97, 98, 99]) _ rfl rfl rfl (FldIs.mk' HA6.out.fld) HA6.out.txt HI6.out (by decide) (by decide) (by decide) (by decide)).mono ?_
  rintro e w7 hp
  obtain ⟨rfl, bb⟩ := hp.no (fun h => absurd (h.2 0 (by decide)) (by decide +kernel))
  have H7 : Hid (Cl w p R B w7) := HA6.out.grew bb
  clear hp bb H6 HA6 HI6 HG6
  go_wp2_with fail
  refine wp_region_held (S := Cl w p R B) (by kernel_rfl) ?_
  change wpAnyH _ _ _ _ _ _ _ _ w7.drew
  have hr : Cl w p R B w7.drew := H7.out.grew (below_drews 1)
  clear H7
  generalize w7.drew = w7 at *
  refine wpAnyH_take (i := 0) (v := .pointer (some ⟨p, 0, none⟩)) rfl (by kernel_rfl) (by kernel_rfl) (by kernel_rfl) (fun _ _ _ h => h) (Yields.yieldsIf (Or.inl ⟨by kernel_rfl, fun _ => by kernel_rfl⟩)) hr ?_
  refine wpAnyH_take (i := 1) (v := .agg #[.int .u32 1, .int .i64 1, .slice none 0 0, .int .i64 3, .int .i64 0, .int .i64 0]) rfl (by kernel_rfl) (by kernel_rfl) (by kernel_rfl) (fun _ _ _ h => h) (Or.inl ⟨by kernel_rfl, fun W hW => by obtain ⟨g0, g1, g2, g3, g4, g5, -⟩ := hW.fr; simp only [frC] at g0 g1 g2 g3 g4 g5; go_simp⟩) hr ?_
  refine wpAnyH_take (i := 2) (v := .slice (some ⟨B, 0, none⟩) 3 3) rfl (by kernel_rfl) (by kernel_rfl) (by kernel_rfl) (fun _ _ _ h => h) (Yields.yieldsIf (Or.inl ⟨by kernel_rfl, fun _ => by kernel_rfl⟩)) hr ?_
  refine wpAnyH_take (i := 3) (v := .slice (some ⟨B, 0, none⟩) 2 3) rfl (by kernel_rfl) (by kernel_rfl) (by kernel_rfl) (fun _ _ _ h => h) (Yields.yieldsIf (Or.inl ⟨by kernel_rfl, fun W => by have h : (Instr.slice 26 (.slice (some ⟨B, 0, none⟩) 3 3) none (some (.int .i64 2)) none).run Try.prog W = .ok (.slice (some ⟨B, 0, none⟩) 2 3) W := slice_to (some ⟨B, 0, none⟩) 3 3 2 W (by decide); go_simp⟩)) hr ?_
  refine wpAnyH_ready (rs := [4]) (by kernel_rfl) (by simp) ?_
  refine AllReadyH.cons rfl (fun K2 hK2 => ?_) AllReadyH.nil
  go_simp
  have hr := hr.grew ((Below.refl _ _).alloc (Nat.le_refl _) (.cells #[.int .i64 0] 3))
  have HI : IntsAt (w7.alloc (.cells #[.int .i64 0] 3)) (some ⟨w7.heap.size, 0, none⟩) 1 (fun _ => 0) := ints_one w7 0
  generalize w7.alloc (.cells #[.int .i64 0] 3) = x7 at *
  refine hK2.out _ _ hr (fun hr => ?_)
  clear hK2 K2
  refine wpAnyH_ready (rs := [5]) (by kernel_rfl) (by simp) ?_
  refine AllReadyH.cons rfl (fun K2 hK2 => ?_) AllReadyH.nil
  go_simp
  refine Calls.mono (packets_is _ true frC _ _ 2 _ 2 _ 1 _ 5 6 _ _ (fun _ => 0) (listAt [97, 98, 99]) x7 rfl rfl rfl (FldIs.mk' hr.fld) (hr.txt.take (by decide)) HI (by decide) (by decide) (by decide) (by decide)) ?_
  rintro e w8 hp
  obtain ⟨rfl, bb⟩ := hp.no (fun h => absurd h.1 (by decide))
  have hr := hr.grew bb
  refine hK2.out _ _ hr (fun hr => ?_)
  clear hK2 K2 hp bb HI
  refine wpAnyH_take (i := 6) (v := .tuple #[.slice none 0 0, .bool false]) rfl (by kernel_rfl) (by kernel_rfl) (by kernel_rfl) (fun _ _ _ h => h) (Yields.yieldsIf (Or.inl ⟨by kernel_rfl, fun _ => by kernel_rfl⟩)) hr ?_
  refine wpAnyH_take (i := 7) (v := .slice none 0 0) rfl (by kernel_rfl) (by kernel_rfl) (by kernel_rfl) (fun _ _ _ h => h) (Yields.yieldsIf (Or.inl ⟨by kernel_rfl, fun _ => by go_simp⟩)) hr ?_
  refine wpAnyH_take (i := 8) (v := .bool false) rfl (by kernel_rfl) (by kernel_rfl) (by kernel_rfl) (fun _ _ _ h => h) (Yields.yieldsIf (Or.inl ⟨by kernel_rfl, fun _ => by go_simp⟩)) hr ?_
  refine wpAnyH_take (i := 9) (v := .slice none 0 0) rfl (by kernel_rfl) (by kernel_rfl) (by kernel_rfl) (fun _ _ _ h => h) (Yields.yieldsIf (Or.inl ⟨by kernel_rfl, fun _ => by kernel_rfl⟩)) hr ?_
  refine wpAnyH_take (i := 10) (v := .bool false) rfl (by kernel_rfl) (by kernel_rfl) (by kernel_rfl) (fun _ _ _ h => h) (Yields.yieldsIf (Or.inl ⟨by kernel_rfl, fun _ => by kernel_rfl⟩)) hr ?_
  refine wpAnyH_done (by kernel_rfl) ?_ _
  have H8 : Hid (Cl w p R B w8) := hr
  clear hr
  obtain ⟨f0, f1, f2, f3, f4, f5, -⟩ := H8.out.fr
  simp only [frC] at f0 f1 f2 f3 f4 f5
  have HA8 : Hid (Cl w p R B (w8.alloc (.cells #[.int .i64 0] 3))) := H8.out.grew ((Below.refl _ _).alloc (Nat.le_refl _) _)
  have HI8 : Hid (IntsAt (w8.alloc (.cells #[.int .i64 0] 3)) (some ⟨w8.heap.size, 0, none⟩) 1 (fun _ => 0)) := ints_one w8 (0)
  have HG8 : Hid (Below w8.heap.size w8 (w8.alloc (.cells #[.int .i64 0] 3))) := (Below.refl _ _).alloc (Nat.le_refl _) _
  go_wp2_with fail
  clear f0 f1 f2 f3 f4 f5
  generalize (w8.alloc (.cells #[.int .i64 0] 3)) = x8 at *
  refine (packets_is _ true frC _ _ 3 _ 0 _ 1 _ 5 6 _ _ (fun _ => 0) (listAt [97, 98, 99]) _ rfl rfl rfl (FldIs.mk' HA8.out.fld) HA8.out.txt HI8.out (by decide) (by decide) (by decide) (by decide)).mono ?_
  rintro e w9 hp
  obtain ⟨rfl, bb⟩ := hp.no (fun h => absurd (h.2 0 (by decide)) (by decide +kernel))
  have H9 : Hid (Cl w p R B w9) := HA8.out.grew bb
  clear hp bb H8 HA8 HI8 HG8
  obtain ⟨f0, f1, f2, f3, f4, f5, -⟩ := H9.out.fr
  simp only [frC] at f0 f1 f2 f3 f4 f5
  have HA9 : Hid (Cl w p R B (w9.alloc (.cells #[.int .i64 0] 3))) := H9.out.grew ((Below.refl _ _).alloc (Nat.le_refl _) _)
  have HI9 : Hid (IntsAt (w9.alloc (.cells #[.int .i64 0] 3)) (some ⟨w9.heap.size, 0, none⟩) 1 (fun _ => 0)) := ints_one w9 (0)
  have HG9 : Hid (Below w9.heap.size w9 (w9.alloc (.cells #[.int .i64 0] 3))) := (Below.refl _ _).alloc (Nat.le_refl _) _
  go_wp2_with fail
  clear f0 f1 f2 f3 f4 f5
  generalize (w9.alloc (.cells #[.int .i64 0] 3)) = x9 at *
  refine (packets_is none false frC _ _ 3 _ 2 _ 1 _ 5 6 _ _ (fun _ => 0) (listAt [97, 98, 99]) _ rfl rfl rfl (FldIs.nil _) HA9.out.txt HI9.out (by decide) (by decide) (by decide) (by decide)).mono ?_
  rintro e w10 hp
  obtain ⟨rfl, bb⟩ := hp.no (fun h => absurd (h.2 0 (by decide)) (by decide +kernel))
  have H10 : Hid (Cl w p R B w10) := HA9.out.grew bb
  clear hp bb H9 HA9 HI9 HG9
  obtain ⟨f0, f1, f2, f3, f4, f5, -⟩ := H10.out.fr
  simp only [frC] at f0 f1 f2 f3 f4 f5
  have HA10 : Hid (Cl w p R B (w10.alloc (.cells #[.int .i64 1, .int .i64 1, .int .i64 65] 3))) := H10.out.grew ((Below.refl _ _).alloc (Nat.le_refl _) _)
  have HI10 : Hid (IntsAt (w10.alloc (.cells #[.int .i64 1, .int .i64 1, .int .i64 65] 3)) (some ⟨w10.heap.size, 0, none⟩) 3 (lit3 1 1 65)) := ints_three w10 (1) (1) (65)
  have HG10 : Hid (Below w10.heap.size w10 (w10.alloc (.cells #[.int .i64 1, .int .i64 1, .int .i64 65] 3))) := (Below.refl _ _).alloc (Nat.le_refl _) _
  go_wp2_with fail
  clear f0 f1 f2 f3 f4 f5
  generalize (w10.alloc (.cells #[.int .i64 1, .int .i64 1, .int .i64 65] 3)) = x10 at *
  refine (packets_is _ true frC _ _ 3 _ 2 _ 3 _ 65534 6 _ _ (lit3 1 1 65) (listAt [97, 98, 99]) _ rfl rfl rfl (FldIs.mk' HA10.out.fld) HA10.out.txt HI10.out (by decide) (by decide) (by decide) (by decide)).mono ?_
  rintro e w11 hp
  obtain ⟨v10, K10, rfl, hds, htl, bb⟩ := hp.yes rfl (fit_list (by decide +kernel))
  obtain ⟨r10, cap10, rfl, -⟩ := hds.row.any
  have H11 : Hid (Cl w p R B w11) := HA10.out.grew bb
  clear hp bb H10 HA10 HI10 HG10
  obtain ⟨g, cap, ev, hg, hcell⟩ := hds.row.lit (by decide)
  cases ev
  have e0 : ((K10 0).s : Int) = 65534 := by rw [(htl 0 (by decide)).1]; rfl
  have e2 : ((K10 2).s : Int) = 0 := by rw [(htl 2 (by decide)).1]; rfl
  have e3 : ((K10 2).y : Int) = 65 := by rw [(htl 2 (by decide)).2.2.2.1]; rfl
  have c0 : w11.cell? ⟨g, 0, none⟩ = some (.int .u16 65534) := (hcell 0 0 0 (by decide) (by decide) rfl).trans (by show some (Value.int .u16 ((K10 0).s : Int)) = _; rw [e0])
  have c10 : w11.cell? ⟨g, 10, none⟩ = some (.int .u16 0) := (hcell 2 0 10 (by decide) (by decide) rfl).trans (by show some (Value.int .u16 ((K10 2).s : Int)) = _; rw [e2])
  have c13 : w11.cell? ⟨g, 13, none⟩ = some (.int .u16 65) := (hcell 2 3 13 (by decide) (by decide) rfl).trans (by show some (Value.int .u16 ((K10 2).y : Int)) = _; rw [e3])
  have c4 := hcell 0 4 4 (by decide) (by decide) rfl
  have c9 := hcell 1 4 9 (by decide) (by decide) rfl
  obtain ⟨a0, k0, E0, hs0⟩ := hds.str 0 2 (by decide) (htl 0 (by decide)).2.2.2.2 ⟨#[99, 0]⟩ (by decide +kernel)
  obtain ⟨a1, k1, E1, hs1⟩ := hds.str 1 2 (by decide) (htl 1 (by decide)).2.2.2.2 ⟨#[99, 0]⟩ (by decide +kernel)
  rw [E0] at c4
  rw [E1] at c9
  have HBE : Hid (Below w.heap.size w w11) := H11.out.bel
  clear hds htl hcell e0 e2 e3 E0 E1 H11 hcv
  go_wp2
  go_ret
  exact ⟨rfl, HBE.out⟩

/-! ### THE ROW's STEP: WRITTEN OUT: LEAVE IT -/
set_option maxRecDepth 100000 in
theorem lifted (os : Os) (started : os.Started) (H : Type) (enc : TypeId × Value → H) :
    ReturnsInHanded {} Try.checked os 5 .any (Rows.packFormsSpec.pre6 enc Try.prog Try.f5 Rows.packFormsRow.domain false) (Rows.packFormsSpec.post enc Try.prog Try.f5 false true false false) := by
  refine returnsInHanded_of_change (C := Try.checked) own started (by kernel_rfl) Try.func5
    (ChangeSpec.witness6 (enc := enc) (C := Try.checked) false ⟨#[], #[], []⟩ 8 (by kernel_rfl) (by kernel_rfl) (by kernel_rfl) (by kernel_rfl)) ?_
  intro W base args ds gs before hval0 hW hcnd _
  have hval : ∀ (j : Nat) t v, Try.f5.params[j]? = some t → args[j]? = some v → Value.okWide Try.prog W .any base t v := hval0
  have hW' := hW
  obtain ⟨p, q, hA0, hV, rfl, hfz, hnd⟩ := hW
  have hA : DataW.TrodAll enc Try.prog W 0 (fun _ => true) true Try.f5.params.toList args.toList ds p := hA0
  rw [Try.params5] at hA hval
  obtain ⟨rfl, rfl, rfl⟩ := trodAll_none hA
  obtain ⟨rfl, rfl⟩ := trodVars_none hV
  clear hA0 hval0
  simp only [List.append_nil] at hW'
  refine (walk  W).mono fun e W' ⟨he, hg⟩ => ?_
  subst he
  exact ⟨_, rfl, _, _, _, [], [], [], hW', (trodAll_cons_mk (shut_bool Try.underlying4 _) trodAll_mk0), rfl, rfl, hg.frame _, fun h => by cases h⟩

theorem over : Rows.packFormsRow.holds Try.pinned (OpenSpec.ofChange Rows.packFormsSpec) :=
  OpenClaim.holds_of_wide 5 Try.f5 rfl rfl rfl rfl rfl rfl rfl ⟨rfl, rfl, rfl, rfl, rfl⟩ rfl rfl rfl rfl rfl (by kernel_rfl) Try.func5 (by kernel_rfl)
    (of_decide_eq_true (by kernel_rfl)) (by unfold Func.isWrapper; first | (rw [if_pos (by decide +kernel)]; kernel_rfl) | (rw [if_neg (by decide +kernel)]; exact ⟨rfl, rfl⟩))
    (fun os started H enc _ => lifted os started H enc)

theorem proved : Rows.PackFormsSaid :=
  over
end Go.Proofs.Ythlidbenhlidjaa.packForms
namespace Go.Proofs.Ythlidbenhlidjaa
theorem packForms_holds : Rows.PackFormsSaid := packForms.proved
#print axioms packForms_holds
end Go.Proofs.Ythlidbenhlidjaa

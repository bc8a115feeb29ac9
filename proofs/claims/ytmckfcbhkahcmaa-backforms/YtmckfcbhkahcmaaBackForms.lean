/-
  Which bytes package back takes as a report, a nack, a gone, and which bytes some are put as: the call returns true (a closed statement; no condition).
-/
import Derived.Test.YtmckfcbhkahcmaaRows
import Derived.WalkKit
import Derived.ProofKit
import Derived.OpenShut
import Derived.ShutString
import Derived.Test.YtmckfcbhkahcmaaBkg
import Derived.Test.YtmckfcbhkahcmaaLit
import Derived.ChangeOld
import Derived.Below
namespace Go.Proofs.Ytmckfcbhkahcmaa.backForms
open Go.ChangeShapes Go.WideShapes Go.ChangeAt Go.RowKit
open Go.ChangeMaps (open_string shut_string)
set_option linter.unusedVariables false      -- a walk need not use every 'w<i>' (that an integer argument fits its kind)

theorem own : ownKnob Try.prog.godebug = none := by kernel_rfl

open Go.Deep

theorem zeros_bytes (w : World) (k : Nat) : BytesAt (w.alloc (.cells (madeCells #[.int .u8 0] k) 5)) (some ⟨w.heap.size, 0, none⟩) k (fun _ => 0) := by
  have R : (w.alloc (.cells (madeCells #[.int .u8 0] k) 5)).rowIs w.heap.size 5 k (byteAt fun _ => 0) := World.rowIs_made w (.int .u8 0) k 5
  exact row_bytes' R (fun _ _ => rfl) (fun _ _ => by decide)
theorem num_zero : ∀ k, Crc.numTo (fun _ => 0) k = 0
  | 0 => rfl
  | k + 1 => by
    show Crc.numTo (fun _ => 0) k * 256 + 0 = 0
    rw [num_zero k]
theorem rep_zero {w w' : World} {n : Nat} {e : Ending} (h : RepTake w n (fun _ => 0) e w') : RepIs w 0 0 0 0 0 (lenE 20 n) e w' := by
  unfold RepTake at h
  have z : ∀ k, lenV 20 n (Crc.numTo (fun _ => 0) k) = 0 := fun k => by rw [num_zero]; unfold lenV; split <;> rfl
  rw [z, z, z] at h
  exact h
theorem err_is (N n : Nat) : ((lenE N n : Int) == 0) = ((n : Int) == (N : Int)) := by
  unfold lenE
  by_cases h : n = N
  · subst h; simp
  · rw [if_neg h]
    have : ((n : Int) == (N : Int)) = false := by simp; omega
    rw [this]; rfl

set_option maxRecDepth 100000 in
set_option maxHeartbeats 2000000 in
theorem walk (w : World) :
    Calls Try.prog 5 #[] w fun e w' => e = .returned (.bool true) ∧ Below w.heap.size w w' := by
  go_enter Try.func5, Try.ntmps5
  go_wp2_with fail
  refine (begun10 _).mono ?_
  rintro e w0 ⟨rfl, b0⟩
  have HB0 : Hid (Below w.heap.size w w0) := b0
  clear b0
  go_wp2_with fail
  go_loopw [1] (fun i wr => ∃ k : Nat, k ≤ 30 ∧ i = .int .i64 k ∧ Below w.heap.size w wr) (fun i _ => 30 - (intOf i).toNat)
  case atStart => exact ⟨0, by omega, rfl, HB0.out⟩
  case round =>
    clear HB0
    obtain ⟨k, hk, rfl, hb⟩ := hrel
    by_cases hlt : k < 30
    · have i1 : (k : Int) < 30 := by omega
      have hmk := run_make_row' (P := Try.prog) 27 5 (.int .u8 0) 1 Try.underlying27 Try.infoByte rfl .i64 .i64 k (by omega) (by omega)
      have B1 := zeros_bytes wr k
      have b1 := hb.alloc hb.size (.cells (madeCells #[.int .u8 0] k) 5)
      clear hk hb
      go_wp2_with fail
      generalize wr.alloc (.cells (madeCells #[.int .u8 0] k) 5) = w1 at *
      refine (ktaker_any _ k k _ w1 B1 (Nat.le_refl _)).mono ?_
      intro e w2 h2
      obtain ⟨rfl, d2⟩ := rep_zero h2
      have e1 : ((lenE 20 k : Int) == 0) = ((k : Int) == 20) := err_is 20 k
      generalize lenE 20 k = E1 at *
      have b2 := b1.trans (d2.mono b1.size)
      have D3 := RepAt.made w2 26 0 0 0 0 0
      change RepAt (w2.alloc (.cells #[.int .u64 0, .int .u32 0, .int .u32 0, .int .u16 0, .int .u16 0] 26)) _ _ _ _ _ _ at D3
      have b3 := b2.alloc b2.size (.cells #[.int .u64 0, .int .u32 0, .int .u32 0, .int .u16 0, .int .u16 0] 26)
      have B4 := zeros_bytes (w2.alloc (.cells #[.int .u64 0, .int .u32 0, .int .u32 0, .int .u16 0, .int .u16 0] 26)) k
      have a4 : Below _ (w2.alloc (.cells #[.int .u64 0, .int .u32 0, .int .u32 0, .int .u16 0, .int .u16 0] 26)) _ := (Below.refl _ _).alloc (Nat.le_refl _) (.cells (madeCells #[.int .u8 0] k) 5)
      have D4 := D3.grew a4
      have b4 := b3.trans (a4.mono b3.size)
      rw [show (w2.alloc (.cells #[.int .u64 0, .int .u32 0, .int .u32 0, .int .u16 0, .int .u16 0] 26)).heap.size = w2.heap.size + 1 by simp] at B4
      clear B1 b1 d2 h2 b2 D3 b3 a4
      go_wp2_with fail
      generalize (w2.alloc (.cells #[.int .u64 0, .int .u32 0, .int .u32 0, .int .u16 0, .int .u16 0] 26)).alloc (.cells (madeCells #[.int .u8 0] k) 5) = w4 at *
      generalize w2.heap.size = G at *
      refine (ktaken_any _ k k _ w4 B4 (Nat.le_refl _)).mono ?_
      intro e w5 h5
      obtain ⟨rfl, d5⟩ := h5
      generalize lenV 6 k (Crc.numTo (fun _ => 0) 4) = f5 at *
      generalize lenV 6 k (Crc.numTo (fun _ => 0) 2) = n5 at *
      have e2 : ((lenE 6 k : Int) == 0) = ((k : Int) == 6) := err_is 6 k
      generalize lenE 6 k = E2 at *
      have a6 : Below w5.heap.size w5 (w5.alloc (.cells (madeCells #[.int .u8 0] k) 5)) := (Below.refl _ _).alloc (Nat.le_refl _) _
      have B6 := zeros_bytes w5 k
      have D6 := (D4.grew d5).grew a6
      have b5 := b4.trans (d5.mono b4.size)
      have b6 := b5.trans (a6.mono b5.size)
      clear B4 D4 b4 d5 a6 b5
      go_wp2_with fail
      clear hmk
      generalize w5.alloc (.cells (madeCells #[.int .u8 0] k) 5) = w6 at *
      refine (ktakeg_any _ k k _ w6 B6 (Nat.le_refl _)).mono ?_
      intro e w7 h7
      obtain ⟨rfl, d7⟩ := h7
      generalize lenV 4 k (Crc.numTo (fun _ => 0) 4) = f7 at *
      have e3 : ((lenE 4 k : Int) == 0) = ((k : Int) == 4) := err_is 4 k
      generalize lenE 4 k = E3 at *
      have D7 := D6.grew d7
      have HB : Hid (Below w.heap.size w w7) := b6.trans (d7.mono b6.size)
      have q0 := D7.c0
      have q1 := D7.c1
      have q2 := D7.c2
      have q3 := D7.c3
      have q4 := D7.c4
      clear B6 D6 b6 d7 D7
      obtain ⟨v1, g1⟩ : ∃ v, ((k : Int) == 20) = v := ⟨_, rfl⟩
      obtain ⟨v2, g2⟩ : ∃ v, ((k : Int) == 6) = v := ⟨_, rfl⟩
      obtain ⟨v3, g3⟩ : ∃ v, ((k : Int) == 4) = v := ⟨_, rfl⟩
      rw [g1] at e1
      rw [g2] at e2
      rw [g3] at e3
      go_wp2_with fail
      go_roundw
      case rel => exact ⟨k + 1, by omega, by go_num, HB.out⟩
      case measure => simp [intOf]; omega
    · obtain rfl : k = 30 := by omega
      have HB1 : Hid (Below w.heap.size w wr) := hb
      clear hk hb hlt
      go_wp2_with fail
      refine (kputr_any 72623859790382856 1 258 3 65535 wr (by decide) (by decide) (by decide) (by decide) (by decide)).mono ?_
      rintro e w1 ⟨r1, c1, rfl, -, -, B1, d1⟩
      have e1 := conv_bytes _ 20 c1 _ _ B1
      rw [show strOf 20 (repLaid 72623859790382856 1 258 3 65535) = ⟨#[1, 2, 3, 4, 5, 6, 7, 8, 0, 0, 0, 1, 0, 0, 1, 2, 0, 3, 255, 255]⟩ by decide +kernel] at e1
      have b1 := HB1.out.trans (d1.mono HB1.out.size)
      clear HB1 B1 d1
      go_wp2_with fail
      clear e1
      refine (kputn_any 1 2 w1 (by decide) (by decide)).mono ?_
      rintro e w2 ⟨r2, c2, rfl, -, -, B2, d2⟩
      have e2 := conv_bytes _ 6 c2 _ _ B2
      rw [show strOf 6 (nackLaid 1 2) = ⟨#[0, 0, 0, 1, 0, 2]⟩ by decide +kernel] at e2
      have b2 := b1.trans (d2.mono b1.size)
      clear b1 B2 d2
      go_wp2_with fail
      clear e2
      refine (kputg_any 4294967295 w2 (by decide)).mono ?_
      rintro e w3 ⟨r3, c3, rfl, -, -, B3, d3⟩
      have e3 := conv_bytes _ 4 c3 _ _ B3
      rw [show strOf 4 (goneLaid 4294967295) = ⟨#[255, 255, 255, 255]⟩ by decide +kernel] at e3
      have HB : Hid (Below w.heap.size w w3) := b2.trans (d3.mono b2.size)
      clear b2 B3 d3
      go_wp2
      go_ret
      exact ⟨rfl, HB.out⟩

/-! ### THE ROW's STEP: WRITTEN OUT: LEAVE IT -/
set_option maxRecDepth 100000 in
theorem lifted (os : Os) (started : os.Started) (H : Type) (enc : TypeId × Value → H) :
    ReturnsInHanded {} Try.checked os 5 .any (Rows.backFormsSpec.pre6 enc Try.prog Try.f5 Rows.backFormsRow.domain false) (Rows.backFormsSpec.post enc Try.prog Try.f5 false true false false) := by
  refine returnsInHanded_of_change (C := Try.checked) own started (by kernel_rfl) Try.func5
    (ChangeSpec.witness6 (enc := enc) (C := Try.checked) false ⟨#[], #[], []⟩ 8 (by kernel_rfl) (by kernel_rfl) (by kernel_rfl) (by kernel_rfl)) ?_
  intro W base args ds gs before hval0 hW hcnd _
  have hval : ∀ (j : Nat) t v, Try.f5.params[j]? = some t → args[j]? = some v → Value.okWide Try.prog W .any base t v := hval0
  have hW' := hW
  obtain ⟨p, q, hA0, hV, rfl, hfz, hnd⟩ := hW
  have hA : DataW.TrodAll enc Try.prog W 0 (fun _ => true) true Try.f5.params.toList args.toList ds p := hA0
  rw [Try.params5] at hA hval
  obtain ⟨rfl, rfl, rfl⟩ := trodAll_none hA
  obtain ⟨rfl, rfl⟩ := trodVars_none hV
  clear hA0 hval0
  simp only [List.append_nil] at hW'
  refine (walk  W).mono fun e W' ⟨he, hg⟩ => ?_
  subst he
  exact ⟨_, rfl, _, _, _, [], [], [], hW', (trodAll_cons_mk (shut_bool Try.underlying4 _) trodAll_mk0), rfl, rfl, hg.frame _, fun h => by cases h⟩

theorem over : Rows.backFormsRow.holds Try.pinned (OpenSpec.ofChange Rows.backFormsSpec) :=
  OpenClaim.holds_of_wide 5 Try.f5 rfl rfl rfl rfl rfl rfl rfl ⟨rfl, rfl, rfl, rfl, rfl⟩ rfl rfl rfl rfl rfl (by kernel_rfl) Try.func5 (by kernel_rfl)
    (of_decide_eq_true (by kernel_rfl)) (by unfold Func.isWrapper; first | (rw [if_pos (by decide +kernel)]; kernel_rfl) | (rw [if_neg (by decide +kernel)]; exact ⟨rfl, rfl⟩))
    (fun os started H enc _ => lifted os started H enc)

theorem proved : Rows.BackFormsSaid :=
  over
end Go.Proofs.Ytmckfcbhkahcmaa.backForms
namespace Go.Proofs.Ytmckfcbhkahcmaa
theorem backForms_holds : Rows.BackFormsSaid := backForms.proved
#print axioms backForms_holds
end Go.Proofs.Ytmckfcbhkahcmaa

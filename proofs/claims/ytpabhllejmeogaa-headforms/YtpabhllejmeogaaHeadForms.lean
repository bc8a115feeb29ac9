/-
  Which bytes package head takes as data, and which bodies it puts: the call returns true (a closed statement; no condition).
-/
import Derived.Test.YtpabhllejmeogaaRows
import Derived.WalkKit
import Derived.ProofKit
import Derived.OpenShut
import Derived.ShutString
import Derived.Test.YtpabhllejmeogaaHbg
import Derived.Test.YtpabhllejmeogaaLit
import Derived.ChangeOld
import Derived.Below
namespace Go.Proofs.Ytpabhllejmeogaa.headForms
open Go.ChangeShapes Go.WideShapes Go.ChangeAt Go.RowKit
open Go.ChangeMaps (open_string shut_string)
set_option linter.unusedVariables false      -- a walk need not use every 'w<i>' (that an integer argument fits its kind)

theorem own : ownKnob Try.prog.godebug = none := by kernel_rfl

open Go.Deep

theorem zeros_bytes (w : World) (k : Nat) : BytesAt (w.alloc (.cells (madeCells #[.int .u8 0] k) 5)) (some ⟨w.heap.size, 0, none⟩) k (fun _ => 0) := by
  have R : (w.alloc (.cells (madeCells #[.int .u8 0] k) 5)).rowIs w.heap.size 5 k (byteAt fun _ => 0) := World.rowIs_made w (.int .u8 0) k 5
  exact row_bytes' R (fun _ _ => rfl) (fun _ _ => by decide)

set_option maxRecDepth 100000 in
set_option maxHeartbeats 2000000 in
theorem walk (w : World) :
    Calls Try.prog 5 #[] w fun e w' => e = .returned (.bool true) ∧ Below w.heap.size w w' := by
  have hcv := conv_const
  go_enter Try.func5, Try.ntmps5
  go_wp2_with fail
  refine (begun9 _).mono ?_
  rintro e w0 ⟨rfl, b0⟩
  have HB0 : Hid (Below w.heap.size w w0) := b0
  clear b0
  go_wp2_with fail
  go_loopw [1] (fun i wr => ∃ k : Nat, k ≤ 80 ∧ i = .int .i64 k ∧ Below w.heap.size w wr) (fun i _ => 80 - (intOf i).toNat)
  case atStart => exact ⟨0, by omega, rfl, HB0.out⟩
  case round =>
    clear HB0
    obtain ⟨k, hk, rfl, hb⟩ := hrel
    by_cases hlt : k < 80
    · have i1 : (k : Int) < 80 := by omega
      have hmk := run_make_row' (P := Try.prog) 24 5 (.int .u8 0) 1 Try.underlying24 Try.infoByte rfl .i64 .i64 k (by omega) (by omega)
      have B1 := zeros_bytes wr k
      have b1 := hb.alloc hb.size (.cells (madeCells #[.int .u8 0] k) 5)
      clear hk hb
      go_wp2_with fail
      clear hmk hcv
      generalize wr.alloc (.cells (madeCells #[.int .u8 0] k) 5) = w1 at *
      refine (htake_any _ k k _ w1 B1 (Nat.le_refl _)).mono ?_
      intro e w2 h2
      clear B1
      by_cases hok : 11 ≤ k ∧ k ≤ 74
      · obtain ⟨r, c, rfl, -, -, -, d2⟩ := h2.some hok.1 hok.2
        obtain ⟨m, hm⟩ : ∃ m, m = k - 10 := ⟨_, rfl⟩
        rw [← hm]
        have i2 : (11 : Int) ≤ (k : Int) := by omega
        have i3 : (k : Int) ≤ 74 := by omega
        have i4 : IntKind.i64.wrap ((k : Int) - 10) = (m : Int) := by rw [IntKind.wrap_i64]; omega
        have b2 := b1.trans (d2.mono b1.size)
        generalize Crc.numTo (fun _ => 0) 2 = s at *
        generalize Crc.numTo (fun _ => 0) 4 = f at *
        have HB : Hid (Below w.heap.size w (w2.alloc (.cells #[.int .u16 (s : Int), .int .u16 (s : Int), .int .u32 (f : Int), .int .u16 (s : Int), .slice r m c] 26))) := b2.alloc b2.size _
        have q := (DatAt.made w2 26 s s f s r m c).c4
        clear b1 d2 b2 h2 hok hm
        go_wp2_with fail
        go_roundw
        case rel => exact ⟨k + 1, by omega, by go_num, HB.out⟩
        case measure => simp [intOf]; omega
      · obtain ⟨r, c, rfl, -, -, -, d2⟩ := h2.none hok
        by_cases h11 : 11 ≤ k
        · have i2 : (11 : Int) ≤ (k : Int) := by omega
          have i3 : ¬ ((k : Int) ≤ 74) := by omega
          have b2 := b1.trans (d2.mono b1.size)
          have HB : Hid (Below w.heap.size w (w2.alloc (.cells #[.int .u16 0, .int .u16 0, .int .u32 0, .int .u16 0, .slice r 0 c] 26))) := b2.alloc b2.size _
          have q := (DatAt.made w2 26 0 0 0 0 r 0 c).c4
          change (w2.alloc (.cells #[.int .u16 0, .int .u16 0, .int .u32 0, .int .u16 0, .slice r 0 c] 26)).cell? _ = _ at q
          clear b1 d2 b2 h2 hok
          go_wp2_with fail
          go_roundw
          case rel => exact ⟨k + 1, by omega, by go_num, HB.out⟩
          case measure => simp [intOf]; omega
        · have i2 : ¬ ((11 : Int) ≤ (k : Int)) := by omega
          have b2 := b1.trans (d2.mono b1.size)
          have HB : Hid (Below w.heap.size w (w2.alloc (.cells #[.int .u16 0, .int .u16 0, .int .u32 0, .int .u16 0, .slice r 0 c] 26))) := b2.alloc b2.size _
          have q := (DatAt.made w2 26 0 0 0 0 r 0 c).c4
          change (w2.alloc (.cells #[.int .u16 0, .int .u16 0, .int .u32 0, .int .u16 0, .slice r 0 c] 26)).cell? _ = _ at q
          clear b1 d2 b2 h2 hok
          go_wp2_with fail
          go_roundw
          case rel => exact ⟨k + 1, by omega, by go_num, HB.out⟩
          case measure => simp [intOf]; omega
    · obtain rfl : k = 80 := by omega
      have B1 := bytes_lit wr 5 (12, 13) [255, 254, 1, 2, 3, 4, 5, 6, 7, 8, 9, 10] (by decide)
      have b1 := hb.alloc hb.size (.cells #[.int .u8 255, .int .u8 254, .int .u8 1, .int .u8 2, .int .u8 3, .int .u8 4, .int .u8 5, .int .u8 6, .int .u8 7, .int .u8 8, .int .u8 9, .int .u8 10] 5 (12, 13))
      simp only [List.map, List.length] at B1
      change BytesAt (wr.alloc (.cells #[.int .u8 255, .int .u8 254, .int .u8 1, .int .u8 2, .int .u8 3, .int .u8 4, .int .u8 5, .int .u8 6, .int .u8 7, .int .u8 8, .int .u8 9, .int .u8 10] 5 (12, 13))) _ _ _ at B1
      have hmk : ∀ w, (Instr.makeSlice 24 (.int .i64 65) (.int .i64 65)).run Try.prog w = .ok (.slice (some ⟨w.heap.size, 0, none⟩) 65 65) (w.alloc (.cells (madeCells #[.int .u8 0] 65) 5)) := run_make_row' (P := Try.prog) 24 5 (.int .u8 0) 1 Try.underlying24 Try.infoByte rfl .i64 .i64 65 (by omega) (by omega)
      clear hk hb hlt
      go_wp2_with fail
      generalize (wr.alloc (.cells #[.int .u8 255, .int .u8 254, .int .u8 1, .int .u8 2, .int .u8 3, .int .u8 4, .int .u8 5, .int .u8 6, .int .u8 7, .int .u8 8, .int .u8 9, .int .u8 10] 5 (12, 13))) = w1 at *
      refine (htake_any _ 12 12 _ w1 B1 (by decide)).mono ?_
      intro e w2 h2
      have h2 := h2.some (by decide) (by decide)
      rw [show Crc.numTo (listAt [255, 254, 1, 2, 3, 4, 5, 6, 7, 8, 9, 10]) 2 = 65534 by decide, show Crc.numTo (fun i => listAt [255, 254, 1, 2, 3, 4, 5, 6, 7, 8, 9, 10] (2 + i)) 2 = 258 by decide, show Crc.numTo (fun i => listAt [255, 254, 1, 2, 3, 4, 5, 6, 7, 8, 9, 10] (4 + i)) 4 = 50595078 by decide, show Crc.numTo (fun i => listAt [255, 254, 1, 2, 3, 4, 5, 6, 7, 8, 9, 10] (8 + i)) 2 = 1800 by decide] at h2
      obtain ⟨r, c, rfl, -, -, B2, d2⟩ := h2
      have b2 := b1.trans (d2.mono b1.size)
      have a3 : Below w2.heap.size w2 (w2.alloc (.cells #[.int .u16 65534, .int .u16 258, .int .u32 50595078, .int .u16 1800, .slice r 2 c] 26)) := (Below.refl _ _).alloc (Nat.le_refl _) _
      have D3 := DatAt.made w2 26 65534 258 50595078 1800 r 2 c
      change DatAt (w2.alloc (.cells #[.int .u16 65534, .int .u16 258, .int .u32 50595078, .int .u16 1800, .slice r 2 c] 26)) _ _ _ _ _ _ _ _ at D3
      have B3 := B2.grew a3
      have b3 := b2.trans (a3.mono b2.size)
      clear B1 b1 d2 b2 a3 B2 hcv
      go_wp2_with fail
      generalize (w2.alloc (.cells #[.int .u16 65534, .int .u16 258, .int .u32 50595078, .int .u16 1800, .slice r 2 c] 26)) = w3 at *
      generalize w2.heap.size = G at *
      refine (hput_no 0 0 0 0 none 0 0 w3 (by decide) (fun _ => 0)).mono ?_
      rintro e w4 ⟨r4, c4, rfl, -, -, -, d4⟩
      have b4 := b3.trans (d4.mono b3.size)
      have D4 := D3.grew d4
      have B4 := B3.grew d4
      have a5 : Below w4.heap.size w4 (w4.alloc (.cells (madeCells #[.int .u8 0] 65) 5)) := (Below.refl _ _).alloc (Nat.le_refl _) _
      have b5 := b4.trans (a5.mono b4.size)
      have D5 := D4.grew a5
      have B5 := B4.grew a5
      clear b3 d4 D3 B3 a5 b4 D4 B4
      go_wp2_with fail
      generalize (w4.alloc (.cells (madeCells #[.int .u8 0] 65) 5)) = w5 at *
      refine (hput_no 0 0 0 0 _ 65 65 w5 (by decide) (fun _ => 0)).mono ?_
      rintro e w6 ⟨r6, c6, rfl, -, -, -, d6⟩
      have HB : Hid (Below w.heap.size w w6) := b5.trans (d6.mono b5.size)
      have D6 := D5.grew d6
      have e1 := conv_bytes r 2 c _ _ (B5.grew d6)
      rw [show strOf 2 (fun i => listAt [255, 254, 1, 2, 3, 4, 5, 6, 7, 8, 9, 10] (10 + i)) = ⟨#[9, 10]⟩ by decide +kernel] at e1
      have q0 := D6.c0
      have q1 := D6.c1
      have q2 := D6.c2
      have q3 := D6.c3
      have q4 := D6.c4
      clear b5 d6 D5 B5 D6 hmk
      go_wp2
      go_ret
      exact ⟨rfl, HB.out⟩

/-! ### THE ROW's STEP: WRITTEN OUT: LEAVE IT -/
set_option maxRecDepth 100000 in
theorem lifted (os : Os) (started : os.Started) (H : Type) (enc : TypeId × Value → H) :
    ReturnsInHanded {} Try.checked os 5 .any (Rows.headFormsSpec.pre6 enc Try.prog Try.f5 Rows.headFormsRow.domain false) (Rows.headFormsSpec.post enc Try.prog Try.f5 false true false false) := by
  refine returnsInHanded_of_change (C := Try.checked) own started (by kernel_rfl) Try.func5
    (ChangeSpec.witness6 (enc := enc) (C := Try.checked) false ⟨#[], #[], []⟩ 8 (by kernel_rfl) (by kernel_rfl) (by kernel_rfl) (by kernel_rfl)) ?_
  intro W base args ds gs before hval0 hW hcnd _
  have hval : ∀ (j : Nat) t v, Try.f5.params[j]? = some t → args[j]? = some v → Value.okWide Try.prog W .any base t v := hval0
  have hW' := hW
  obtain ⟨p, q, hA0, hV, rfl, hfz, hnd⟩ := hW
  have hA : DataW.TrodAll enc Try.prog W 0 (fun _ => true) true Try.f5.params.toList args.toList ds p := hA0
  rw [Try.params5] at hA hval
  obtain ⟨rfl, rfl, rfl⟩ := trodAll_none hA
  obtain ⟨rfl, rfl⟩ := trodVars_none hV
  clear hA0 hval0
  simp only [List.append_nil] at hW'
  refine (walk  W).mono fun e W' ⟨he, hg⟩ => ?_
  subst he
  exact ⟨_, rfl, _, _, _, [], [], [], hW', (trodAll_cons_mk (shut_bool Try.underlying4 _) trodAll_mk0), rfl, rfl, hg.frame _, fun h => by cases h⟩

theorem over : Rows.headFormsRow.holds Try.pinned (OpenSpec.ofChange Rows.headFormsSpec) :=
  OpenClaim.holds_of_wide 5 Try.f5 rfl rfl rfl rfl rfl rfl rfl ⟨rfl, rfl, rfl, rfl, rfl⟩ rfl rfl rfl rfl rfl (by kernel_rfl) Try.func5 (by kernel_rfl)
    (of_decide_eq_true (by kernel_rfl)) (by unfold Func.isWrapper; first | (rw [if_pos (by decide +kernel)]; kernel_rfl) | (rw [if_neg (by decide +kernel)]; exact ⟨rfl, rfl⟩))
    (fun os started H enc _ => lifted os started H enc)

theorem proved : Rows.HeadFormsSaid :=
  over
end Go.Proofs.Ytpabhllejmeogaa.headForms
namespace Go.Proofs.Ytpabhllejmeogaa
theorem headForms_holds : Rows.HeadFormsSaid := headForms.proved
#print axioms headForms_holds
end Go.Proofs.Ytpabhllejmeogaa

/-
  What waits, and what is refused: the statement PaceForms: the call returns true. (A closed statement.)
-/
import Derived.Test.YtaikkoijoolhkaaRows
import Derived.WalkKit
import Derived.ProofKit
import Derived.OpenShut
import Derived.ShutString
import Derived.ChangeOld
import Derived.Below
import Derived.Carry
import Derived.Test.YtaikkoijoolhkaaOpn
import Derived.Test.YtaikkoijoolhkaaPbg
import Derived.Test.YtaikkoijoolhkaaPfm
namespace Go.Proofs.Ytaikkoijoolhkaa.paceForms
open Go.ChangeShapes Go.WideShapes Go.ChangeAt Go.RowKit
open Go.ChangeMaps (open_string shut_string)
set_option linter.unusedVariables false

theorem own : ownKnob Try.prog.godebug = none := by kernel_rfl
theorem laidOut : laidOutB Try.prog = true := by kernel_rfl

open Go.Deep

set_option maxRecDepth 100000 in
set_option maxHeartbeats 4000000 in
theorem walk (w : World) : Calls Try.prog 6 #[] w fun e w' => e = .returned (.bool true) ∧ Below w.heap.size w w' := by
  have hB : Hid (Calls Try.prog 8 #[] w fun e w' => e = .returned (.bool true) ∧ Below w.heap.size w w') := begun22 w
  go_enter Try.func6, Try.ntmps6
  go_wp2_with fail
  refine hB.out.mono ?_
  rintro e w1 ⟨rfl, b1⟩
  obtain ⟨B, hB1⟩ : ∃ B, w1.heap.size = B := ⟨_, rfl⟩
  obtain ⟨x1, e1⟩ : ∃ x, w1.alloc (.cells #[.slice none 0 0] 55) = x := ⟨_, rfl⟩
  have HN : Hid (Calls Try.prog 9 #[] w1 fun e w' => e = .returned (.pointer (some ⟨B, 0, none⟩)) ∧ w' = x1) := by
    rw [← hB1, ← e1]
    exact pnew_any w1
  have L0 : Lv w B [] x1 := by
    rw [← e1, ← hB1]
    exact ⟨⟨_, QAt.made w1 w.heap.size _ b1.size⟩, b1.trans (((Below.refl _ _).alloc (Nat.le_refl _) _).mono b1.size), Okl.nil⟩
  have C1 : Hid (Calls Try.prog 10 #[.pointer (some ⟨B, 0, none⟩), .agg #[.int .u32 0, .int .i64 0, .int .i64 0, .int .i64 0, .int .i64 0]] x1 fun e w' => e = .returned (.bool false) ∧ Lv w B [] w') := put_lv_no ⟨0, 0, 0, 0, 0⟩ L0 (by decide)
  clear hB b1 hB1 e1 L0
  go_wp2_with fail
  refine HN.out.mono ?_
  rintro e w' ⟨rfl, hw⟩
  subst w'
  clear HN
  go_wp2_with fail
  refine C1.out.mono ?_
  rintro e w2 ⟨rfl, L⟩
  have C1 : Hid (Calls Try.prog 10 #[.pointer (some ⟨B, 0, none⟩), .agg #[.int .u32 0, .int .i64 0, .int .i64 0, .int .i64 (-1), .int .i64 0]] w2 fun e w' => e = .returned (.bool false) ∧ Lv w B [] w') := put_lv_no ⟨0, 0, 0, -1, 0⟩ L (by decide)
  clear L
  go_wp2_with fail
  refine C1.out.mono ?_
  rintro e w3 ⟨rfl, L⟩
  have C1 : Hid (Calls Try.prog 10 #[.pointer (some ⟨B, 0, none⟩), .agg #[.int .u32 0, .int .i64 0, .int .i64 0, .int .i64 65537, .int .i64 0]] w3 fun e w' => e = .returned (.bool false) ∧ Lv w B [] w') := put_lv_no ⟨0, 0, 0, 65537, 0⟩ L (by decide)
  clear L
  go_wp2_with fail
  refine C1.out.mono ?_
  rintro e w4 ⟨rfl, L⟩
  have C1 : Hid (Calls Try.prog 23 #[.pointer (some ⟨B, 0, none⟩)] w4 fun e w' => e = .returned (.int .i64 0) ∧ w' = w4) := len_lv L
  have HL : Hid (Lv w B (items fit 0) w4) := L
  clear L
  go_wp2_with fail
  refine C1.out.mono ?_
  rintro e w' ⟨rfl, hw⟩
  subst w'
  clear C1
  go_wp2_with fail
  go_loopw [2] (fun iv wr => ∃ k : Nat, k ≤ 2001 ∧ iv = .int .i64 (k : Int) ∧ Hid (Lv w B (items fit (min k 2000)) wr)) (fun iv _ => 2001 - (intOf iv).toNat)
  case atStart => exact ⟨0, Nat.zero_le _, rfl, HL⟩
  case round =>
    obtain ⟨k, hk, rfl, hl⟩ := hrel
    clear HL
    by_cases h : k < 2001
    · have i2 : decide (k < 2001) = true := by simpa using h
      have i2' : (k : Int) < 2001 := by omega
      obtain ⟨q, hq⟩ : ∃ q : Nat, k % 3 = q := ⟨_, rfl⟩
      have hq3 : q < 3 := by omega
      have g1 : (k : Int).tmod 3 = (q : Int) := by rw [Int.tmod_eq_emod_of_nonneg (by omega)]; omega
      have g2 : (k : Int) % 3 = (q : Int) := by omega
      have g3 : IntKind.u32.wrap (q : Int) = (q : Int) := by rw [IntKind.wrap_u32']; omega
      have g4 : IntKind.i64.wrap (2 - (q : Int)) = 2 - (q : Int) := w64 _ (by omega) (by omega)
      have hfk : fit k = ⟨q, (k : Int), 2 - (q : Int), 100, (k : Int)⟩ := by unfold fit; rw [hq, g2]
      by_cases h2 : k < 2000
      · have i3 : decide (k < 2000) = true := by simpa using h2
        have i3' : (k : Int) < 2000 := by omega
        have CALL : Hid (Calls Try.prog 10 #[.pointer (some ⟨B, 0, none⟩), .agg #[.int .u32 (q : Int), .int .i64 (k : Int), .int .i64 (2 - (q : Int)), .int .i64 100, .int .i64 (k : Int)]] wr fun e w' => e = .returned (.bool true) ∧ Lv w B (items fit (min (k + 1) 2000)) w') := by
          have hl := hl.out
          rw [show min k 2000 = k by omega] at hl
          rw [show min (k + 1) 2000 = k + 1 by omega, items_next, hfk]
          exact put_lv ⟨q, (k : Int), 2 - (q : Int), 100, (k : Int)⟩ hl ⟨by show (1 : Int) ≤ 100; decide, by show (100 : Int) ≤ 65536; decide, by rw [items_len]; exact h2⟩ (by show q < 4294967296; omega)
        clear hl hq hfk h h2
        go_wp2_with fail
        refine CALL.out.mono ?_
        rintro e w5 ⟨rfl, L⟩
        have HL5 : Hid (Lv w B (items fit (min (k + 1) 2000)) w5) := L
        clear CALL L
        go_wp2_with fail
        go_roundw
        case rel => exact ⟨k + 1, by omega, by go_num, HL5⟩
        case measure => simp [intOf]; omega
      · obtain rfl : k = 2000 := by omega
        have CALL : Hid (Calls Try.prog 10 #[.pointer (some ⟨B, 0, none⟩), .agg #[.int .u32 (q : Int), .int .i64 2000, .int .i64 (2 - (q : Int)), .int .i64 100, .int .i64 2000]] wr fun e w' => e = .returned (.bool false) ∧ Lv w B (items fit 2000) w') :=
          put_lv_no ⟨q, 2000, 2 - (q : Int), 100, 2000⟩ hl.out (fun h => by have := h.2.2; rw [items_len] at this; omega)
        have g5 : (2000 : Int).tmod 3 = (q : Int) := g1
        clear hl hq hfk h h2
        go_wp2_with fail
        refine CALL.out.mono ?_
        rintro e w5 ⟨rfl, L⟩
        have HL5 : Hid (Lv w B (items fit 2000) w5) := L
        clear CALL L
        go_wp2_with fail
        go_roundw
        case rel => exact ⟨2001, by omega, by go_num, HL5⟩
        case measure => simp [intOf]
    · obtain rfl : k = 2001 := by omega
      have C1 : Hid (Calls Try.prog 21 #[.pointer (some ⟨B, 0, none⟩)] wr fun e w' => (∃ r c s, e = .returned (.slice r 3 c) ∧ Told [⟨0, 2, 65536⟩, ⟨1, 1, 65536⟩, ⟨2, 0, 65536⟩] s ∧ LsAt wE w' r s) ∧ Lv w B (items fit 2000) w') := by
        have := wants_lv (show Lv w B (items fit 2000) wr from hl.out)
        rw [wants_2000] at this
        exact this
      clear hl h
      go_wp2_with fail
      refine C1.out.mono ?_
      rintro e w5 ⟨⟨r, cp, s, rfl, ht, hls⟩, L⟩
      obtain rfl := told_three ht
      obtain ⟨b5, o5, rfl⟩ := hls.addr (by decide)
      have c0 : w5.cell? ⟨b5, o5, none⟩ = some (.int .u32 2) := (ls_wn hls 0 (by decide)).c0
      have c1 : w5.cell? ⟨b5, o5 + 1, none⟩ = some (.int .i64 0) := (ls_wn hls 0 (by decide)).c1
      have c3 : w5.cell? ⟨b5, o5 + 3, none⟩ = some (.int .u32 1) := (ls_wn hls 1 (by decide)).c0
      have c6 : w5.cell? ⟨b5, o5 + 6, none⟩ = some (.int .u32 0) := (ls_wn hls 2 (by decide)).c0
      have c8 : w5.cell? ⟨b5, o5 + 6 + 2, none⟩ = some (.int .i64 65536) := (ls_wn hls 2 (by decide)).c2
      have C2 : Hid (Calls Try.prog 13 #[.pointer (some ⟨B, 0, none⟩), .int .u32 2, .int .i64 99] w5 fun e w' => (∃ r c, e = .returned (.slice r 0 c) ∧ LsAt iE w' r []) ∧ Lv w B (items fit 2000) w') := by
        have := take_lv 2 99 L (by decide)
        obtain ⟨h1, h2⟩ := hold_none (f := 2) (n := 99) (fit_100 (n := 2000)) (by decide)
        rw [h1, h2] at this
        exact this
      clear C1 L ht hls
      go_wp2_with fail
      refine C2.out.mono ?_
      rintro e w6 ⟨⟨r, cp', rfl, -⟩, L⟩
      have C3 : Hid (Calls Try.prog 13 #[.pointer (some ⟨B, 0, none⟩), .int .u32 2, .int .i64 250] w6 fun e w' => (∃ r c, e = .returned (.slice r 2 c)) ∧ Lv w B fq1 w') := by
        have := take_lv 2 250 L (by decide)
        rw [take_250.1, take_250.2] at this
        exact this.mono fun e w' ⟨⟨r, c, h, _⟩, h2⟩ => ⟨⟨r, c, h⟩, h2⟩
      clear C2 L c0 c1 c3 c6 c8
      go_wp2_with fail
      refine C3.out.mono ?_
      rintro e w7 ⟨⟨r7, cp7, rfl⟩, L⟩
      have C4 : Hid (Calls Try.prog 13 #[.pointer (some ⟨B, 0, none⟩), .int .u32 2, .int .i64 (-1)] w7 fun e w' => (∃ r c, e = .returned (.slice r 0 c) ∧ LsAt iE w' r []) ∧ Lv w B fq1 w') := by
        have := take_lv 2 (-1) L (by decide)
        obtain ⟨h1, h2⟩ := hold_none (f := 2) (n := -1) fq1_100 (by decide)
        rw [h1, h2] at this
        exact this
      clear C3 L
      go_wp2_with fail
      refine C4.out.mono ?_
      rintro e w8 ⟨⟨r8, cp8, rfl, -⟩, L⟩
      have C5 : Hid (Calls Try.prog 19 #[.pointer (some ⟨B, 0, none⟩), .int .u32 1, .int .i64 7] w8 fun e w' => e = .returned (.int .i64 667) ∧ Lv w B fq2 w') := by
        have := rank_lv 1 7 L
        rw [fq1_count] at this
        exact this
      clear C4 L
      go_wp2_with fail
      refine C5.out.mono ?_
      rintro e w9 ⟨rfl, L⟩
      obtain ⟨x, y, z, hw⟩ := wants_fq2
      have C6 : Hid (Calls Try.prog 21 #[.pointer (some ⟨B, 0, none⟩)] w9 fun e w' => (∃ r c s, e = .returned (.slice r 3 c) ∧ Told [⟨0, 2, x⟩, ⟨1, 7, y⟩, ⟨2, 0, z⟩] s ∧ LsAt wE w' r s) ∧ Lv w B fq2 w') := by
        have := wants_lv L
        rw [hw] at this
        exact this
      clear C5 L hw
      go_wp2_with fail
      refine C6.out.mono ?_
      rintro e w10 ⟨⟨r, cp', s, rfl, ht, hls⟩, L⟩
      obtain rfl := told_fq2 ht
      obtain ⟨b6, o6, rfl⟩ := hls.addr (by simp)
      have c6 : w10.cell? ⟨b6, o6 + 6, none⟩ = some (.int .u32 1) := (ls_wn hls 2 (by simp)).c0
      have C7 : Hid (Calls Try.prog 17 #[.pointer (some ⟨B, 0, none⟩), .int .u32 0] w10 fun e w' => e = .returned (.int .i64 667) ∧ Lv w B fq3 w') := by
        have := drop_lv 0 L
        rw [fq2_drop.1, fq2_drop.2] at this
        exact this
      clear C6 L ht hls
      go_wp2_with fail
      refine C7.out.mono ?_
      rintro e w11 ⟨rfl, L⟩
      have C8 : Hid (Calls Try.prog 15 #[.pointer (some ⟨B, 0, none⟩), .int .i64 10] w11 fun e w' => (∃ r c, e = .returned (.slice r 5 c)) ∧ Lv w B (prt (late 10) 0 fq3).2.1 w') := by
        have := expire_lv 10 L
        rw [fq3_late.1] at this
        exact this.mono fun e w' ⟨⟨r, c, h, _⟩, h2⟩ => ⟨⟨r, c, h⟩, h2⟩
      clear C7 L c6
      go_wp2_with fail
      refine C8.out.mono ?_
      rintro e w12 ⟨⟨r12, cp12, rfl⟩, L⟩
      have C9 : Hid (Calls Try.prog 23 #[.pointer (some ⟨B, 0, none⟩)] w12 fun e w' => e = .returned (.int .i64 1326) ∧ w' = w12) := by
        have := len_lv L
        rw [fq3_late.2] at this
        exact this
      have HE : Hid (Below w.heap.size w w12) := L.bel
      clear C8 L
      go_wp2_with fail
      refine C9.out.mono ?_
      rintro e w' ⟨rfl, hw⟩
      subst w'
      clear C9
      go_wp2_with fail
      go_ret
      exact ⟨rfl, HE.out⟩

set_option maxRecDepth 100000 in
theorem lifted (os : Os) (started : os.Started) (H : Type) (enc : TypeId × Value → H) :
    ReturnsInHanded {} Try.checked os 6 .any (Rows.paceFormsSpec.pre6 enc Try.prog Try.f6 Rows.paceFormsRow.domain false) (Rows.paceFormsSpec.post enc Try.prog Try.f6 false true false false) := by
  refine returnsInHanded_of_change (C := Try.checked) own started (by kernel_rfl) Try.func6
    (ChangeSpec.witness6 (enc := enc) (C := Try.checked) false ⟨#[], #[], []⟩ 8 (by kernel_rfl) (by kernel_rfl) (by kernel_rfl) (by kernel_rfl)) ?_
  intro W base args ds gs before hval0 hW hcnd _
  have hval : ∀ (j : Nat) t v, Try.f6.params[j]? = some t → args[j]? = some v → Value.okWide Try.prog W .any base t v := hval0
  have hW' := hW
  obtain ⟨p, q, hA0, hV, rfl, hfz, hnd⟩ := hW
  have hA : DataW.TrodAll enc Try.prog W 0 (fun _ => true) true Try.f6.params.toList args.toList ds p := hA0
  rw [Try.params6] at hA hval
  obtain ⟨hargs, rfl, rfl⟩ := trodAll_nil hA
  obtain rfl : args = #[] := by cases args; simp_all
  obtain ⟨rfl, rfl⟩ := trodVars_none hV
  clear hA0 hval0
  refine (walk W).mono fun e W' ⟨he, bel⟩ => ?_
  subst he
  exact ⟨_, rfl, _, _, _, [], _, [], hW', trodAll_mk1 (shut_bool Try.underlying4 _), trodAll_mk0, rfl, bel.frame _, fun h => by cases h⟩

theorem over : Rows.paceFormsRow.holds Try.pinned (OpenSpec.ofChange Rows.paceFormsSpec) :=
  OpenClaim.holds_of_wide 6 Try.f6 rfl rfl rfl rfl rfl rfl rfl ⟨rfl, rfl, rfl, rfl, rfl⟩ rfl rfl rfl rfl rfl (by kernel_rfl) Try.func6 (by kernel_rfl)
    (of_decide_eq_true (by kernel_rfl)) (by unfold Func.isWrapper; first | (rw [if_pos (by decide +kernel)]; kernel_rfl) | (rw [if_neg (by decide +kernel)]; exact ⟨rfl, rfl⟩))
    (fun os started H enc _ => lifted os started H enc)

theorem proved : Rows.PaceFormsSaid := over
end Go.Proofs.Ytaikkoijoolhkaa.paceForms
namespace Go.Proofs.Ytaikkoijoolhkaa
theorem paceForms_holds : Rows.PaceFormsSaid := paceForms.proved
#print axioms paceForms_holds
end Go.Proofs.Ytaikkoijoolhkaa

/-
  Package dice's rows are never all noughts, the first ones are the symbols' own, and there are just so many: the call returns true for every frame and every byte (no condition).
-/
import Derived.Test.YtdlalcbcgdambaaRows
import Derived.WalkKit
import Derived.ProofKit
import Derived.OpenShut
import Derived.ShutString
import Derived.Test.YtdlalcbcgdambaaDrw
import Derived.ChangeOld
import Derived.Below
namespace Go.Proofs.Ytdlalcbcgdambaa.diceRows
open Go.ChangeShapes Go.WideShapes Go.ChangeAt Go.RowKit
open Go.ChangeMaps (open_string shut_string)
set_option linter.unusedVariables false      -- a walk need not use every 'w<i>' (that an integer argument fits its kind)

theorem own : ownKnob Try.prog.godebug = none := by kernel_rfl

open Go.Deep

/-- How many of the first j are not 0. -/
def cnt (x : Nat → Nat) : Nat → Nat
  | 0 => 0
  | j + 1 => cnt x j + (if x j = 0 then 0 else 1)
theorem cnt_le (x : Nat → Nat) (j : Nat) : cnt x j ≤ j := by
  induction j with
  | zero => exact Nat.le_refl _
  | succ j ih => show cnt x j + _ ≤ j + 1; split <;> omega
theorem cnt_mono (x : Nat → Nat) {i j : Nat} (h : i ≤ j) : cnt x i ≤ cnt x j := by
  induction h with
  | refl => exact Nat.le_refl _
  | step _ ih => exact Nat.le_trans ih (Nat.le_add_right _ _)
theorem cnt_pos (x : Nat → Nat) (j t : Nat) (ht : t < j) (h : x t ≠ 0) : 1 ≤ cnt x j := by
  have h1 : cnt x (t + 1) ≤ cnt x j := cnt_mono x ht
  have h2 : cnt x (t + 1) = cnt x t + 1 := by show _ + _ = _; rw [if_neg h]
  omega
theorem cnt_unit (f s k : Nat) (hs : s < k) : ∀ j, cnt (Dice.rowOf f s k) j = if s < j then 1 else 0 := by
  intro j
  induction j with
  | zero => rfl
  | succ j ih =>
    show cnt _ j + _ = _
    rw [ih]
    unfold Dice.rowOf
    rw [if_pos hs]
    by_cases e : j = s
    · subst e; simp
    · by_cases g : s < j
      · simp [e, g, show s < j + 1 by omega]
      · simp [e, g, show ¬ s < j + 1 by omega]
theorem row_some (f s k : Nat) (k1 : 1 ≤ k) : ∃ t, t < k ∧ Dice.rowOf f s k t ≠ 0 := by
  by_cases hs : s < k
  · exact ⟨s, hs, by unfold Dice.rowOf; rw [if_pos hs, if_pos rfl]; decide⟩
  · by_cases h : ∀ j, j < k → Dice.raw (Dice.start f s) j = 0
    · exact ⟨0, k1, by unfold Dice.rowOf Dice.row; rw [if_neg hs, if_pos ⟨h, rfl⟩]; decide⟩
    · have ⟨t, ht⟩ := Classical.not_forall.1 h
      have ⟨h1, h2⟩ := Classical.not_imp.1 ht
      refine ⟨t, h1, ?_⟩
      unfold Dice.rowOf Dice.row
      rw [if_neg hs, if_neg fun g => h g.1]
      exact h2

set_option maxRecDepth 100000 in
set_option maxHeartbeats 1000000 in
theorem core (f n k : Nat) (w : World) (hf : f < 4294967296) (hn : n < 256) (hk : k = 1 + n % 32) :
    Calls Try.prog 4 #[.int .u32 (f : Int), .int .u8 (n : Int)] w fun e w' => e = .returned (.bool true) ∧ Below w.heap.size w w' := by
  have k1 : 1 ≤ k := by omega
  have k2 : k ≤ 32 := by omega
  have E0 : Hid (1 + (n : Int) % 32 = (k : Int)) := by show 1 + (n : Int) % 32 = (k : Int); omega
  go_enter Try.func4, Try.ntmps4
  go_wp2_with fail
  refine (begun3 _).mono ?_
  rintro e w0 ⟨rfl, b0⟩
  go_wp2_with fail
  rw [E0.out]
  clear E0
  go_loopw [6] (fun i wr => ∃ j : Int, -1 ≤ j ∧ j ≤ (k : Int) + 65 ∧ i = .int .i64 j ∧ Below w.heap.size w wr) (fun i _ => (k + 65 - intOf i).toNat)
  case atStart => exact ⟨-1, by omega, by omega, rfl, b0⟩
  case round =>
    clear b0
    obtain ⟨j, j1, j2, rfl, b⟩ := hrel
    have HB : Hid (Below w.heap.size w wr) := b
    clear b hk hn
    by_cases hin : j ≤ (k : Int) + 64
    · by_cases hok : 0 ≤ j ∧ j < (k : Int) + 64
      · obtain ⟨h0, h1⟩ := hok
        obtain ⟨s, rfl⟩ : ∃ s : Nat, j = s := ⟨j.toNat, by omega⟩
        go_wp2_with fail
        refine (drow_yes f s k _ hf k1 k2 (by omega)).mono ?_
        rintro e w1 ⟨r1, rfl, -, B1, b1⟩
        have HB1 : Hid (Below w.heap.size w w1) := HB.out.trans (b1.mono HB.out.size)
        clear b1
        obtain ⟨t, ht, hx⟩ := row_some f s k k1
        have C1 : Hid (1 ≤ cnt (Dice.rowOf f s k) k) := cnt_pos _ k t ht hx
        have C2 : Hid (s < k → cnt (Dice.rowOf f s k) k = 1 ∧ Dice.rowOf f s k s = 1) := fun h => ⟨by rw [cnt_unit f s k h, if_pos h], by unfold Dice.rowOf; rw [if_pos h, if_pos rfl]⟩
        have C3 : Hid (∀ j, cnt (Dice.rowOf f s k) j ≤ j) := cnt_le _
        have CC : ∀ i, i < k → w1.cell? ⟨r1, i, none⟩ = some (.int .u8 (Dice.rowOf f s k i : Int)) := fun i hi => by have := bytes_cell B1 i hi; simpa using this
        have LL : Hid (∀ i, i < k → Dice.rowOf f s k i < 256) := B1.lt
        have HC : Hid (∀ i, i < k → w1.cell? ⟨r1, i, none⟩ = some (.int .u8 (Dice.rowOf f s k i : Int))) := CC
        clear B1 ht hx CC HB
        clear t
        generalize Dice.rowOf f s k = x at *
        generalize wr = wo at *
        go_wp2_with fail
        go_loopw [9, 10] (fun c i wi => ∃ m : Nat, m ≤ k ∧ i = .int .i64 m ∧ c = .int .i64 (cnt x m : Int) ∧ wi = w1) (fun _ i _ => k - (intOf i).toNat)
        case atStart => exact ⟨0, Nat.zero_le _, rfl, rfl, rfl⟩
        case round =>
          obtain ⟨m, hm, rfl, rfl, hw⟩ := hrel
          subst wr
          by_cases hmk : m < k
          · have c1 := HC.out m hmk
            have l1 := LL.out m hmk
            have i1 : (m : Int) < (k : Int) := by omega
            have l2 := C3.out m
            by_cases hz : x m = 0
            · have HS : Hid (cnt x (m + 1) = cnt x m) := by show cnt x m + _ = _; rw [if_pos hz]; rfl
              rw [hz] at c1
              go_wp2
              go_roundw
              case rel => exact ⟨m + 1, by omega, by go_num, by rw [HS.out], trivial⟩
              case measure => simp [intOf]; omega
            · have HS : Hid (cnt x (m + 1) = cnt x m + 1) := by show cnt x m + _ = _; rw [if_neg hz]
              have z1 : ((x m : Int) == 0) = false := by simp; omega
              go_wp2
              go_roundw
              case rel => exact ⟨m + 1, by omega, by go_num, by rw [HS.out]; go_num, trivial⟩
              case measure => simp [intOf]; omega
          · have hme : m = k := by omega
            subst hme
            have c1 := C1.out
            have c2 := C3.out m
            by_cases hs : s < m
            · obtain ⟨d1, d2⟩ := C2.out hs
              have d3 := HC.out s hs
              rw [d2] at d3
              rw [d1]
              have i1 : (s : Int) < (m : Int) := by omega
              clear hmk hm
              go_wp2
              go_roundw
              case rel => exact ⟨s + 1, by omega, by omega, by go_num, HB1.out⟩
              case measure => simp [intOf]; omega
            · have i1 : ¬ (s : Int) < (m : Int) := by omega
              have z1 : ((cnt x m : Int) == 0) = false := by simp; omega
              clear hmk hm
              go_wp2
              go_roundw
              case rel => exact ⟨s + 1, by omega, by omega, by go_num, HB1.out⟩
              case measure => simp [intOf]; omega
      · have HN : Hid (¬ (1 ≤ (k : Int) ∧ (k : Int) ≤ 32 ∧ 0 ≤ j ∧ j < (k : Int) + 64)) := fun g => hok g.2.2
        go_wp2_with fail
        refine (drow_no f j k _ HN.out).mono ?_
        rintro e w1 ⟨rfl, rfl⟩
        by_cases h0 : 0 ≤ j
        · have h1 : (k : Int) + 64 ≤ j := by omega
          clear hok HN
          go_wp2_with fail
          go_loopw [9, 10] (fun c i wi => i = .int .i64 0 ∧ c = .int .i64 0 ∧ wi = w1) (fun _ _ _ => 0)
          case atStart => exact ⟨rfl, rfl, rfl⟩
          case round =>
            obtain ⟨rfl, rfl, hw⟩ := hrel
            subst wr
            go_wp2
            go_roundw
            case rel => exact ⟨j + 1, by omega, by omega, by go_num, HB.out⟩
            case measure => simp [intOf]; omega
        · have h1 : j < 0 := by omega
          clear hok HN h0
          go_wp2_with fail
          go_loopw [9, 10] (fun c i wi => i = .int .i64 0 ∧ c = .int .i64 0 ∧ wi = w1) (fun _ _ _ => 0)
          case atStart => exact ⟨rfl, rfl, rfl⟩
          case round =>
            obtain ⟨rfl, rfl, hw⟩ := hrel
            subst wr
            go_wp2
            go_roundw
            case rel => exact ⟨j + 1, by omega, by omega, by go_num, HB.out⟩
            case measure => simp [intOf]; omega
    · have hje : j = (k : Int) + 65 := by omega
      subst hje
      clear hin
      go_wp2
      go_ret
      exact ⟨rfl, HB.out⟩

theorem walk (a0 : Int) (a1 : Int) (w0 : (Lit.int .u32 a0).wf = true) (w1 : (Lit.int .u8 a1).wf = true) (w : World) :
    Calls Try.prog 4 #[.int .u32 a0, .int .u8 a1] w fun e w' => e = .returned (.bool true) ∧ Below w.heap.size w w' := by
  have b0 := bounds_u32 w0
  have b1 := bounds_u8 w1
  clear w0 w1
  obtain ⟨f, rfl⟩ : ∃ n : Nat, a0 = n := ⟨a0.toNat, by omega⟩
  obtain ⟨n, rfl⟩ : ∃ n : Nat, a1 = n := ⟨a1.toNat, by omega⟩
  exact core f n _ w (by omega) (by omega) rfl

/-! ### THE ROW's STEP: WRITTEN OUT: LEAVE IT -/
set_option maxRecDepth 100000 in
theorem lifted (os : Os) (started : os.Started) (H : Type) (enc : TypeId × Value → H) :
    ReturnsInHanded {} Try.checked os 4 .any (Rows.diceRowsSpec.pre6 enc Try.prog Try.f4 Rows.diceRowsRow.domain false) (Rows.diceRowsSpec.post enc Try.prog Try.f4 false true false false) := by
  refine returnsInHanded_of_change (C := Try.checked) own started (by kernel_rfl) Try.func4
    (ChangeSpec.witness6 (enc := enc) (C := Try.checked) false ⟨#[], #[.int .u32 0, .int .u8 0], []⟩ 8 (by kernel_rfl) (by kernel_rfl) (by kernel_rfl) (by kernel_rfl)) ?_
  intro W base args ds gs before hval0 hW hcnd _
  have hval : ∀ (j : Nat) t v, Try.f4.params[j]? = some t → args[j]? = some v → Value.okWide Try.prog W .any base t v := hval0
  have hW' := hW
  obtain ⟨p, q, hA0, hV, rfl, hfz, hnd⟩ := hW
  have hA : DataW.TrodAll enc Try.prog W 0 (fun _ => true) true Try.f4.params.toList args.toList ds p := hA0
  rw [Try.params4] at hA hval
  obtain ⟨v0, vs0, d0, ds0, p0, q0, hargs, rfl, rfl, h0, r0⟩ := trodAll_cons hA
  obtain ⟨v1, vs1, d1, ds1, p1, q1, rfl, rfl, rfl, h1, r1⟩ := trodAll_cons r0
  obtain ⟨rfl, rfl, rfl⟩ := trodAll_nil r1
  obtain rfl : args = #[v0, v1] := by cases args; simp_all
  obtain ⟨rfl, rfl⟩ := trodVars_none hV
  obtain ⟨a0, rfl, rfl, rfl, w0⟩ := open_int Try.underlying22 (hval 0 22 v0 rfl rfl) h0
  obtain ⟨a1, rfl, rfl, rfl, w1⟩ := open_int Try.underlying5 (hval 1 5 v1 rfl rfl) h1
  clear hA0 hval0
  simp only [List.append_nil] at hW'
  refine (walk a0 a1 w0 w1 W).mono fun e W' ⟨he, hg⟩ => ?_
  subst he
  exact ⟨_, rfl, _, _, _, [], [], [], hW', (trodAll_cons_mk (shut_bool Try.underlying4 _) trodAll_mk0), (trodAll_cons_mk (shut_int Try.underlying22 w0) (trodAll_cons_mk (shut_int Try.underlying5 w1) trodAll_mk0)), rfl, hg.frame _, fun h => by cases h⟩

theorem over : Rows.diceRowsRow.holds Try.pinned (OpenSpec.ofChange Rows.diceRowsSpec) :=
  OpenClaim.holds_of_wide 4 Try.f4 rfl rfl rfl rfl rfl rfl rfl ⟨rfl, rfl, rfl, rfl, rfl⟩ rfl rfl rfl rfl rfl (by kernel_rfl) Try.func4 (by kernel_rfl)
    (of_decide_eq_true (by kernel_rfl)) (by unfold Func.isWrapper; first | (rw [if_pos (by decide +kernel)]; kernel_rfl) | (rw [if_neg (by decide +kernel)]; exact ⟨rfl, rfl⟩))
    (fun os started H enc _ => lifted os started H enc)

theorem proved : Rows.DiceRowsSaid :=
  over
end Go.Proofs.Ytdlalcbcgdambaa.diceRows
namespace Go.Proofs.Ytdlalcbcgdambaa
theorem diceRows_holds : Rows.DiceRowsSaid := diceRows.proved
#print axioms diceRows_holds
end Go.Proofs.Ytdlalcbcgdambaa

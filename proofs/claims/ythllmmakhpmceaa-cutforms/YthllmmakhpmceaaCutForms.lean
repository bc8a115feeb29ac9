/-
  Package cut counts as the statement CutForms lists, and refuses what it lists: the call returns true (a closed statement; no condition).
-/
import Derived.Test.YthllmmakhpmceaaRows
import Derived.WalkKit
import Derived.ProofKit
import Derived.OpenShut
import Derived.ShutString
import Derived.Test.YthllmmakhpmceaaCbg
import Derived.ChangeOld
import Derived.Below
namespace Go.Proofs.Ythllmmakhpmceaa.cutForms
open Go.ChangeShapes Go.WideShapes Go.ChangeAt Go.RowKit
open Go.ChangeMaps (open_string shut_string)
set_option linter.unusedVariables false      -- a walk need not use every 'w<i>' (that an integer argument fits its kind)

theorem own : ownKnob Try.prog.godebug = none := by kernel_rfl

open Go.Deep

def sizes : List Int := [1, 2, 3, 64, 65, 2048, 2049, 0, -1, 1, 1, 32, 33]
def symbols : List Int := [2, 2, 2, 64, 64, 64, 64, 1, 1, 0, 65, 1, 1]
def wants : List Int := [1, 1, 2, 1, 2, 32, 0, 0, 0, 0, 0, 32, 0]
def fits (n s : Int) : Bool := decide (1 ≤ s ∧ s ≤ 64 ∧ 1 ≤ n ∧ n ≤ 32 * s)
theorem table : ∀ j, j < 13 → if fits (sizes.getD j 0) (symbols.getD j 0) then ((cntOf (sizes.getD j 0).toNat (symbols.getD j 0).toNat : Nat) : Int) = wants.getD j 0 ∧ 0 < wants.getD j 0 ∧ wants.getD j 0 ≤ 32 else wants.getD j 0 = 0 := by decide

theorem row_lit (w : World) (t : TypeId) (l : List Int) : (w.alloc (.cells (l.map fun z => Value.int .i64 z).toArray t)).rowIs w.heap.size t l.length (fun i => .int .i64 (l.getD i 0)) := by
  have h := World.rowIs_alloc w (l.map fun z => Value.int .i64 z).toArray t (fun i => .int .i64 (l.getD i 0)) fun i hi => by
    simp at hi
    simp [List.getD, hi]
  simpa using h

theorem count_at (n s k : Int) (w : World) (h : fits n s = true) (hk : ((cntOf n.toNat s.toNat : Nat) : Int) = k) :
    Calls Try.prog 8 #[.int .i64 n, .int .i64 s] w fun e w' => e = .returned (.tuple #[.int .i64 k, .bool true]) ∧ Below w.heap.size w w' := by
  have h := of_decide_eq_true h
  subst hk
  have e1 : n = ((n.toNat : Nat) : Int) := by omega
  have e2 : s = ((s.toNat : Nat) : Int) := by omega
  have := face_count_yes n.toNat s.toNat w (by omega) (by omega) (by omega) (by omega)
  rwa [← e1, ← e2] at this

theorem head (w : World) (w0 : World) (b0 : Below w.heap.size w w0) : ∃ w1, w1 = (((w0.alloc (.cells (sizes.map fun z => Value.int .i64 z).toArray 3)).alloc (.cells (symbols.map fun z => Value.int .i64 z).toArray 3)).alloc (.cells (wants.map fun z => Value.int .i64 z).toArray 3)) ∧
    w1.rowIs w0.heap.size 3 13 (fun i => .int .i64 (sizes.getD i 0)) ∧ w1.rowIs (w0.heap.size + 1) 3 13 (fun i => .int .i64 (symbols.getD i 0)) ∧ w1.rowIs (w0.heap.size + 1 + 1) 3 13 (fun i => .int .i64 (wants.getD i 0)) ∧ Below w.heap.size w w1 := by
  refine ⟨_, rfl, ((row_lit w0 _ sizes).alloc _).alloc _, ?_, ?_, ((b0.alloc b0.size _).alloc (by have := b0.size; simp; omega) _).alloc (by have := b0.size; simp; omega) _⟩
  · have h := (row_lit (w0.alloc (.cells (sizes.map fun z => Value.int .i64 z).toArray 3)) 3 symbols).alloc (.cells (wants.map fun z => Value.int .i64 z).toArray 3)
    rw [show (w0.alloc (.cells (sizes.map fun z => Value.int .i64 z).toArray 3)).heap.size = w0.heap.size + 1 by simp] at h
    exact h
  · have h := row_lit ((w0.alloc (.cells (sizes.map fun z => Value.int .i64 z).toArray 3)).alloc (.cells (symbols.map fun z => Value.int .i64 z).toArray 3)) 3 wants
    rw [show ((w0.alloc (.cells (sizes.map fun z => Value.int .i64 z).toArray 3)).alloc (.cells (symbols.map fun z => Value.int .i64 z).toArray 3)).heap.size = w0.heap.size + 1 + 1 by simp] at h
    exact h

/-- Two texts, written out. -/
theorem two_lists (w w0 : World) (b0 : Below w0.heap.size w0 w) (l m : List Nat) (n k : Nat) (el : l.length = n) (em : m.length = k) (hl : ∀ i, i < l.length → listAt l i < 256) (hm : ∀ i, i < m.length → listAt m i < 256) (f g : Nat × Nat) (hn : n ≤ 100) (hk : k ≤ 100) :
    ∃ w', w' = ((w.alloc (.cells (l.map fun (n : Nat) => Value.int .u8 (n : Int)).toArray 5 f)).alloc (.cells (m.map fun (n : Nat) => Value.int .u8 (n : Int)).toArray 5 g)).alloc (.cells #[.slice (some ⟨w.heap.size, 0, none⟩) n n, .slice (some ⟨w.heap.size + 1, 0, none⟩) k k] 22) ∧
      ListsAt w' (some ⟨w.heap.size + 1 + 1, 0, none⟩) 2 (fun i => some ⟨w.heap.size + i, 0, none⟩) (fun i => if i = 0 then n else k) (fun i => if i = 0 then n else k) (fun i => if i = 0 then listAt l else listAt m) ∧ Below w0.heap.size w0 w' := by
  subst el em
  refine ⟨_, rfl, fun _ => ⟨_, 0, rfl, fun i hi => ?_⟩, ((b0.alloc b0.size _).alloc (by have := b0.size; simp; omega) _).alloc (by have := b0.size; simp; omega) _⟩
  have B1 := bytes_lit w 5 f l hl
  have B2 := bytes_lit (w.alloc (.cells (l.map fun (n : Nat) => Value.int .u8 (n : Int)).toArray 5 f)) 5 g m hm
  rw [show (w.alloc (.cells (l.map fun (n : Nat) => Value.int .u8 (n : Int)).toArray 5 f)).heap.size = w.heap.size + 1 by simp] at B2
  have A2 : ∀ (v : World) (o : Obj), Below v.heap.size v (v.alloc o) := fun v o => (Below.refl _ v).alloc (Nat.le_refl _) _
  have B1 := (B1.grew (A2 _ (.cells (m.map fun (n : Nat) => Value.int .u8 (n : Int)).toArray 5 g))).grew (A2 _ (.cells #[.slice (some ⟨w.heap.size, 0, none⟩) l.length l.length, .slice (some ⟨w.heap.size + 1, 0, none⟩) m.length m.length] 22))
  have B2 := B2.grew (A2 _ (.cells #[.slice (some ⟨w.heap.size, 0, none⟩) l.length l.length, .slice (some ⟨w.heap.size + 1, 0, none⟩) m.length m.length] 22))
  match i, hi with
  | 0, _ => exact ⟨by rw [World.cell?_alloc_at _ _ _ _ (by simp)]; rfl, Nat.le_refl _, by show l.length ≤ maxLen; unfold maxLen; omega, B1⟩
  | 1, _ => exact ⟨by rw [World.cell?_alloc_at _ _ _ _ (by simp)]; rfl, Nat.le_refl _, by show m.length ≤ maxLen; unfold maxLen; omega, B2⟩

/-- A list of one empty text. -/
theorem empty_list (w : World) : ListsAt ((w.alloc (.cells #[] 5)).alloc (.cells #[.slice (some ⟨w.heap.size, 0, none⟩) 0 0] 22)) (some ⟨w.heap.size + 1, 0, none⟩) 1 (fun _ => some ⟨w.heap.size, 0, none⟩) (fun _ => 0) (fun _ => 0) (fun _ _ => 0) := by
  refine fun _ => ⟨_, 0, rfl, fun i hi => ?_⟩
  obtain rfl : i = 0 := by omega
  exact ⟨by rw [World.cell?_alloc_at _ _ _ _ (by simp)]; rfl, Nat.le_refl _, Nat.zero_le _, fun h => absurd h (by decide), fun i hi => absurd hi (Nat.not_lt_zero i)⟩

set_option maxRecDepth 100000 in
set_option maxHeartbeats 1000000 in
theorem walk (w : World) :
    Calls Try.prog 5 #[] w fun e w' => e = .returned (.bool true) ∧ Below w.heap.size w w' := by
  have hcv := conv_const
  go_enter Try.func5, Try.ntmps5
  go_wp2_with fail
  refine (begun4 _).mono ?_
  rintro e w0 ⟨rfl, b0⟩
  go_wp2_with fail
  obtain ⟨w1, e1, R1, R2, R3, b1⟩ := head w w0 b0
  simp only [sizes, symbols, wants, List.map] at e1
  rw [← e1]
  clear e1 b0
  go_loopw [4] (fun i wr => ∃ j : Nat, j ≤ 13 ∧ i = .int .i64 j ∧ wr.rowIs w0.heap.size 3 13 (fun i => .int .i64 (sizes.getD i 0)) ∧ wr.rowIs (w0.heap.size + 1) 3 13 (fun i => .int .i64 (symbols.getD i 0)) ∧ wr.rowIs (w0.heap.size + 1 + 1) 3 13 (fun i => .int .i64 (wants.getD i 0)) ∧ Below w.heap.size w wr) (fun i _ => 13 - (intOf i).toNat)
  case atStart => exact ⟨0, by decide, rfl, R1, R2, R3, b1⟩
  case round =>
    clear R1 R2 R3 b1
    obtain ⟨j, hj, rfl, R1, R2, R3, b⟩ := hrel
    by_cases hjk : j < 13
    · have ht := table j hjk
      have c1 := R1.cell hjk
      have c2 := R2.cell hjk
      have i1 : (j : Int) < 13 := by omega
      generalize sizes.getD j 0 = n at *
      generalize symbols.getD j 0 = s at *
      have HR1 : Hid (wr.rowIs w0.heap.size 3 13 (fun i => .int .i64 (sizes.getD i 0))) := R1
      have HR2 : Hid (wr.rowIs (w0.heap.size + 1) 3 13 (fun i => .int .i64 (symbols.getD i 0))) := R2
      have HR3 : Hid (wr.rowIs (w0.heap.size + 1 + 1) 3 13 (fun i => .int .i64 (wants.getD i 0))) := R3
      have HB : Hid (Below w.heap.size w wr) := b
      clear R1 R2 R3 b
      by_cases hf : fits n s = true
      · rw [if_pos hf] at ht
        obtain ⟨t1, t2, t3⟩ := ht
        have HF : Hid (fits n s = true) := hf
        have HT : Hid (((cntOf n.toNat s.toNat : Nat) : Int) = wants.getD j 0) := t1
        have c3 := HR3.out.cell hjk
        have HJ : Hid (wr.cell? ⟨w0.heap.size + 1 + 1, j, none⟩ = some (.int .i64 (wants.getD j 0))) := c3
        clear hf t1 c3
        generalize wants.getD j 0 = k at *
        go_wp2_with fail
        go_region_with (go_at_call 8; refine (count_at n s k _ HF.out HT.out).mono ?_; rintro e w2 ⟨rfl, b2⟩)
        all_goals
          have b3 : Below wr.heap.size wr w2 := by (first | exact b2 | exact (below_drews 1).trans b2 | exact (below_drews 2).trans b2 | exact (below_drews 3).trans b2)
          have c4 := (b3.cell (p := ⟨w0.heap.size + 1 + 1, j, none⟩) (cell_lt HJ.out)).trans HJ.out
          have HB3 : Hid (Below wr.heap.size wr w2) := b3
          clear b2 b3
          go_wp2
          go_roundw
          case rel => exact ⟨j + 1, by omega, by go_num, HR1.out.of_block (HB3.out.block _ HR1.out.lt), HR2.out.of_block (HB3.out.block _ HR2.out.lt), HR3.out.of_block (HB3.out.block _ HR3.out.lt), HB.out.trans (HB3.out.mono HB.out.size)⟩
          case measure => simp [intOf]; omega
      · rw [if_neg hf] at ht
        have HF : Hid (¬ (1 ≤ s ∧ s ≤ 64 ∧ 1 ≤ n ∧ n ≤ 32 * s)) := fun g => hf (decide_eq_true g)
        have c3 := HR3.out.cell hjk
        rw [ht] at c3
        have HJ : Hid (wr.cell? ⟨w0.heap.size + 1 + 1, j, none⟩ = some (.int .i64 0)) := c3
        clear hf ht c3
        go_wp2_with fail
        go_region_with (go_at_call 8; refine (face_count_no n s _ HF.out).mono ?_; rintro e w2 ⟨rfl, b2⟩)
        all_goals
          have b3 : Below wr.heap.size wr w2 := by (first | exact b2 | exact (below_drews 1).trans b2 | exact (below_drews 2).trans b2 | exact (below_drews 3).trans b2)
          have c4 := (b3.cell (p := ⟨w0.heap.size + 1 + 1, j, none⟩) (cell_lt HJ.out)).trans HJ.out
          have HB3 : Hid (Below wr.heap.size wr w2) := b3
          clear b2 b3
          go_wp2
          go_roundw
          case rel => exact ⟨j + 1, by omega, by go_num, HR1.out.of_block (HB3.out.block _ HR1.out.lt), HR2.out.of_block (HB3.out.block _ HR2.out.lt), HR3.out.of_block (HB3.out.block _ HR3.out.lt), HB.out.trans (HB3.out.mono HB.out.size)⟩
          case measure => simp [intOf]; omega
    · obtain rfl : j = 13 := by omega
      have HB : Hid (Below w.heap.size w wr) := b
      clear R1 R2 R3 b hjk hj
      go_wp2_with fail
      obtain ⟨w1, e1, l1, b1⟩ := two_lists wr wr (Below.refl _ _) [97, 98] [99] 2 1 rfl rfl (by decide) (by decide) (2, 3) (1, 2) (by decide) (by decide)
      have e1 : w1 = ((wr.alloc (.cells #[.int .u8 97, .int .u8 98] 5 (2, 3))).alloc (.cells #[.int .u8 99] 5 (1, 2))).alloc (.cells #[.slice (some ⟨wr.heap.size, 0, none⟩) 2 2, .slice (some ⟨wr.heap.size + 1, 0, none⟩) 1 1] 22) := e1
      rw [← e1]
      clear e1
      refine (face_join_no _ 2 2 3 _ fun w2 b2 => join_odd _ 2 2 _ _ _ _ 3 w2 (l1.grew b2) (by decide) (by decide) (by decide)).mono ?_
      rintro e w2 ⟨rfl, b2⟩
      have HB2 : Hid (Below w.heap.size w w2) := (HB.out.trans (b1.mono HB.out.size)).trans (b2.mono (by have := HB.out.size; have := b1.size; omega))
      clear b1 b2 l1 HB
      go_wp2_with fail
      refine (face_join_no _ 0 0 0 _ fun w3 _ => join_none _ 0 0 w3).mono ?_
      rintro e w3 ⟨rfl, b3⟩
      have HB3 : Hid (Below w.heap.size w w3) := HB2.out.trans (b3.mono HB2.out.size)
      clear b3 HB2
      go_wp2_with fail
      have l4 := empty_list w3
      have b4 : Below w.heap.size w ((w3.alloc (.cells #[] 5)).alloc (.cells #[.slice (some ⟨w3.heap.size, 0, none⟩) 0 0] 22)) := (HB3.out.alloc HB3.out.size _).alloc (by have := HB3.out.size; simp; omega) _
      generalize ((w3.alloc (.cells #[] 5)).alloc (.cells #[.slice (some ⟨w3.heap.size, 0, none⟩) 0 0] 22)) = w4 at *
      refine (face_join_no _ 1 1 0 _ fun w5 b5 => join_far _ 1 1 0 _ _ _ _ 0 w5 (l4.grew b5) (by decide) (by decide) (fun _ _ => rfl) (by decide)).mono ?_
      rintro e w5 ⟨rfl, b5⟩
      have HB5 : Hid (Below w.heap.size w w5) := b4.trans (b5.mono b4.size)
      clear b4 b5 l4 HB3
      go_wp2_with fail
      obtain ⟨w6, e6, l6, b6⟩ := two_lists w5 w5 (Below.refl _ _) [97, 98] [99, 100] 2 2 rfl rfl (by decide) (by decide) (2, 3) (2, 3) (by decide) (by decide)
      have e6 : w6 = ((w5.alloc (.cells #[.int .u8 97, .int .u8 98] 5 (2, 3))).alloc (.cells #[.int .u8 99, .int .u8 100] 5 (2, 3))).alloc (.cells #[.slice (some ⟨w5.heap.size, 0, none⟩) 2 2, .slice (some ⟨w5.heap.size + 1, 0, none⟩) 2 2] 22) := e6
      rw [← e6]
      clear e6
      refine (face_join_yes _ 2 2 2 3 _ _ _ _ _ l6 (by decide) (by decide) (by decide) (by decide) (by decide) (by decide) (by decide) (by decide)).mono ?_
      rintro e w7 ⟨r, c, rfl, -, -, -, B7, b7⟩
      have b8 := HB5.out.trans (b6.mono HB5.out.size)
      have HB7 : Hid (Below w.heap.size w w7) := b8.trans (b7.mono b8.size)
      have e1 := conv_bytes _ 3 c _ _ B7
      rw [show strOf 3 (joined (fun i => if i = 0 then listAt [97, 98] else listAt [99, 100]) 2) = ⟨#[97, 98, 99]⟩ by decide +kernel] at e1
      clear b6 b7 b8 B7 l6 HB5 hcv
      go_wp2
      go_ret
      exact ⟨rfl, HB7.out⟩

/-! ### THE ROW's STEP: WRITTEN OUT: LEAVE IT -/
set_option maxRecDepth 100000 in
theorem lifted (os : Os) (started : os.Started) (H : Type) (enc : TypeId × Value → H) :
    ReturnsInHanded {} Try.checked os 5 .any (Rows.cutFormsSpec.pre6 enc Try.prog Try.f5 Rows.cutFormsRow.domain false) (Rows.cutFormsSpec.post enc Try.prog Try.f5 false true false false) := by
  refine returnsInHanded_of_change (C := Try.checked) own started (by kernel_rfl) Try.func5
    (ChangeSpec.witness6 (enc := enc) (C := Try.checked) false ⟨#[], #[], []⟩ 8 (by kernel_rfl) (by kernel_rfl) (by kernel_rfl) (by kernel_rfl)) ?_
  intro W base args ds gs before hval0 hW hcnd _
  have hval : ∀ (j : Nat) t v, Try.f5.params[j]? = some t → args[j]? = some v → Value.okWide Try.prog W .any base t v := hval0
  have hW' := hW
  obtain ⟨p, q, hA0, hV, rfl, hfz, hnd⟩ := hW
  have hA : DataW.TrodAll enc Try.prog W 0 (fun _ => true) true Try.f5.params.toList args.toList ds p := hA0
  rw [Try.params5] at hA hval
  obtain ⟨rfl, rfl, rfl⟩ := trodAll_none hA
  obtain ⟨rfl, rfl⟩ := trodVars_none hV
  clear hA0 hval0
  simp only [List.append_nil] at hW'
  refine (walk  W).mono fun e W' ⟨he, hg⟩ => ?_
  subst he
  exact ⟨_, rfl, _, _, _, [], [], [], hW', (trodAll_cons_mk (shut_bool Try.underlying4 _) trodAll_mk0), rfl, rfl, hg.frame _, fun h => by cases h⟩

theorem over : Rows.cutFormsRow.holds Try.pinned (OpenSpec.ofChange Rows.cutFormsSpec) :=
  OpenClaim.holds_of_wide 5 Try.f5 rfl rfl rfl rfl rfl rfl rfl ⟨rfl, rfl, rfl, rfl, rfl⟩ rfl rfl rfl rfl rfl (by kernel_rfl) Try.func5 (by kernel_rfl)
    (of_decide_eq_true (by kernel_rfl)) (by unfold Func.isWrapper; first | (rw [if_pos (by decide +kernel)]; kernel_rfl) | (rw [if_neg (by decide +kernel)]; exact ⟨rfl, rfl⟩))
    (fun os started H enc _ => lifted os started H enc)

theorem proved : Rows.CutFormsSaid :=
  over
end Go.Proofs.Ythllmmakhpmceaa.cutForms
namespace Go.Proofs.Ythllmmakhpmceaa
theorem cutForms_holds : Rows.CutFormsSaid := cutForms.proved
#print axioms cutForms_holds
end Go.Proofs.Ythllmmakhpmceaa

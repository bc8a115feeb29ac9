/-
  slices.Grow of nil and slices.Concat of two rows, and the first byte that is not 0.
-/
import Derived.Test.YtgbeklifcchmlaaClo
namespace Go.Proofs.Ytgbeklifcchmlaa
open Go.RowKit Go.Deep

/-- A row without elements, with room, was made and answered. -/
def NewRoom (w : World) (e : Ending) (w' : World) : Prop :=
  ∃ v, e = .returned v ∧ v ≠ .slice none 0 0 ∧ w'.ownsRow w.heap.size 5 1 v 0 [] ∧ Below w.heap.size w w'

theorem slice_all (a : Option Addr) (len cap n : Nat) (w : World) (h : n ≤ cap) : (Instr.slice 34 (.slice a len cap) none (some (.int .i64 (n : Int))) none).run Try.prog w = .ok (.slice a n cap) w := slice_to a len cap n w h

set_option maxRecDepth 100000 in
set_option maxHeartbeats 400000 in
theorem grow_nil (n : Nat) (w : World) (h0 : 0 < n) (hn : n ≤ 140737488351232) :
    Calls Try.prog 64 #[.slice none 0 0, .int .i64 (n : Int)] w fun e w' => NewRoom w e w' := by
  obtain ⟨i0, hi, hz0, hz1, hz2⟩ := info_parts Try.infoByte
  have s1 := slice_all none 0 0 0 w (by omega)
  have hr := Go.Lib.run_append_nil_zeros (P := Try.prog) w 34 3 34 5 i0 (.int .u8 0) .i64 .i64 Try.underlying34 Try.underlying3 hi hz0 n h0 (by omega) (by omega) (by rw [hz2]; omega)
  have hge := grownCap_ge w n 0 5
  have hcm : grownCap w n 0 5 ≤ maxLen := grownCap_le_maxLen w n 0 5 (by unfold maxLen; omega)
  generalize grownCap w n 0 5 = cap at hr hge hcm
  have hs : (Builtin.zeroCells (Value.int .u8 0).cells n ++ Builtin.zeroCells (Value.int .u8 0).cells (cap - n)).size = cap := by
    simp [size_zeroCells, Value.cells]; omega
  generalize Builtin.zeroCells (Value.int .u8 0).cells n ++ Builtin.zeroCells (Value.int .u8 0).cells (cap - n) = cur at hr hs
  have s2 := slice_all (some ⟨w.heap.size, 0, none⟩) n cap 0 (w.drew.alloc (.cells cur 5)) (by omega)
  go_enter Try.func64, Try.ntmps64
  go_wp2_with (at_builtin; refine Go.Lib.wpList_append_run _ rfl _ _ _ _ rfl _ _ rfl rfl _ _ hr ?_)
  go_ret
  refine ⟨_, rfl, by simp, ⟨rfl, .inr ⟨w.heap.size, cap, cur, rfl, Nat.le_refl _, heap_alloc_new w.drew _, Nat.zero_le _, hcm, by omega, by simp⟩⟩, ?_⟩
  exact (Below.refl _ w).drew.alloc (Nat.le_refl _) _

set_option maxRecDepth 100000 in
set_option maxHeartbeats 1000000 in
theorem concat_any (T n m cn cm b1 o1 b2 o2 : Nat) (x y : Nat → Nat) (w : World)
    (c0 : w.cell? ⟨T, 0, none⟩ = some (.slice (some ⟨b1, o1, none⟩) n cn)) (c1 : w.cell? ⟨T, 1, none⟩ = some (.slice (some ⟨b2, o2, none⟩) m cm))
    (hx : BytesAt w (some ⟨b1, o1, none⟩) n x) (hy : BytesAt w (some ⟨b2, o2, none⟩) m y) (hn0 : 0 < n) (hm0 : 0 < m) (hn : n ≤ 1000000) (hm : m ≤ 1000000) :
    Calls Try.prog 55 #[.slice (some ⟨T, 0, none⟩) 2 2] w fun e w' => NewRow w (n + m) (cat x y n) e w' := by
  obtain ⟨i0, hi, hz0, hz1, hz2⟩ := info_parts Try.infoByte
  have HX : Hid (BytesAt w (some ⟨b1, o1, none⟩) n x) := hx
  have HY : Hid (BytesAt w (some ⟨b2, o2, none⟩) m y) := hy
  have lT : T < w.heap.size := cell_lt c0
  clear hx hy
  go_enter Try.func55, Try.ntmps55
  go_wp2_with fail
  go_loopw [3, 11] (fun s i wr => wr = w ∧ ((i = .int .i64 0 ∧ s = .int .i64 0) ∨ (i = .int .i64 1 ∧ s = .int .i64 (n : Int)) ∨ (i = .int .i64 2 ∧ s = .int .i64 ((n + m : Nat) : Int)))) (fun _ i _ => 2 - (intOf i).toNat)
  case atStart => exact ⟨rfl, .inl ⟨rfl, rfl⟩⟩
  case round =>
    obtain ⟨hq, hcase⟩ := hrel
    subst wr
    obtain ⟨rfl, rfl⟩ | ⟨rfl, rfl⟩ | ⟨rfl, rfl⟩ := hcase
    · go_wp2_with fail
      go_roundw
      case rel => exact ⟨trivial, .inr (.inl ⟨rfl, rfl⟩)⟩
      case measure => simp [intOf]
    · go_wp2_with fail
      go_roundw
      case rel => exact ⟨trivial, .inr (.inr ⟨rfl, by go_num⟩)⟩
      case measure => simp [intOf]
    · go_wp2_with fail
      refine (grow_nil (n + m) _ (by omega) (by omega)).mono ?_
      rintro e w1 ⟨v, rfl, hv, hown, hb⟩
      have C0 : Hid (w.cell? ⟨T, 0, none⟩ = some (.slice (some ⟨b1, o1, none⟩) n cn)) := c0
      have C1 : Hid (w.cell? ⟨T, 1, none⟩ = some (.slice (some ⟨b2, o2, none⟩) m cm)) := c1
      clear c0 c1
      go_wp2_with fail
      go_loopw [6, 27] (fun v i wr => Below w.heap.size w wr ∧ v ≠ .slice none 0 0 ∧ ((i = .int .i64 0 ∧ wr.ownsRow w.heap.size 5 1 v 0 []) ∨ (i = .int .i64 1 ∧ wr.ownsRow w.heap.size 5 1 v n (cellsAt x 0 n)) ∨ (i = .int .i64 2 ∧ wr.ownsRow w.heap.size 5 1 v (n + m) (cellsAt (cat x y n) 0 (n + m))))) (fun _ i _ => 2 - (intOf i).toNat)
      case atStart => exact ⟨hb, hv, .inl ⟨rfl, hown⟩⟩
      case round =>
        clear hown hb hv
        obtain ⟨hb2, hv2, ⟨rfl, ho⟩ | ⟨rfl, ho⟩ | ⟨rfl, ho⟩⟩ := hrel
        all_goals
          have d0 : wr.cell? ⟨T, 0, none⟩ = some (.slice (some ⟨b1, o1, none⟩) n cn) := (hb2.cell (p := ⟨T, 0, none⟩) lT).trans C0.out
          have d1 : wr.cell? ⟨T, 1, none⟩ = some (.slice (some ⟨b2, o2, none⟩) m cm) := (hb2.cell (p := ⟨T, 1, none⟩) lT).trans C1.out
        · go_wp2_with (at_builtin; refine wpList_append_own _ rfl _ _ 34 rfl w.heap.size 5 i0 (.int .u8 0) 1 1 Try.underlying34 hi hz0 hz1 hz2 rfl (by decide) _ _ _ rfl ho ⟨b1, o1, none⟩ n cn (cellsAt x 0 n) rfl ?qc1 ?qc2 ?qc3 ?qc4 ?qc5 ?qc6 ?_)
          case qc1 => rw [cellsAt_len]; omega
          case qc2 =>
            intro j u hj
            obtain ⟨hjn, rfl⟩ := cellsAt_get _ _ _ _ _ hj
            rw [Addr.add_mid, Nat.zero_add]
            exact bytes_cell (HX.out.below hb2 (Nat.le_refl _)) j hjn
          case qc3 => exact cellsAt_one _ _ _
          case qc4 => unfold maxLen; omega
          case qc5 => omega
          case qc6 => exact hb2.size
          intro v2 w2 hown hgrow hnil
          have hb3 : Below w.heap.size w w2 := hb2.grown hgrow hb2.size (own_ge ho)
          have hv3 : v2 ≠ .slice none 0 0 := hnil
          go_wp2_with fail
          go_roundw
          case rel => exact ⟨hb3, hv3, .inr (.inl ⟨by go_num, by simpa using hown⟩)⟩
          case measure => simp [intOf]
        · go_wp2_with (at_builtin; refine wpList_append_own _ rfl _ _ 34 rfl w.heap.size 5 i0 (.int .u8 0) 1 1 Try.underlying34 hi hz0 hz1 hz2 rfl (by decide) _ _ _ rfl ho ⟨b2, o2, none⟩ m cm (cellsAt y 0 m) rfl ?qc1 ?qc2 ?qc3 ?qc4 ?qc5 ?qc6 ?_)
          case qc1 => rw [cellsAt_len]; omega
          case qc2 =>
            intro j u hj
            obtain ⟨hjn, rfl⟩ := cellsAt_get _ _ _ _ _ hj
            rw [Addr.add_mid, Nat.zero_add]
            exact bytes_cell (HY.out.below hb2 (Nat.le_refl _)) j hjn
          case qc3 => exact cellsAt_one _ _ _
          case qc4 => unfold maxLen; omega
          case qc5 => omega
          case qc6 => exact hb2.size
          intro v2 w2 hown hgrow hnil
          have hb3 : Below w.heap.size w w2 := hb2.grown hgrow hb2.size (own_ge ho)
          have hv3 : v2 ≠ .slice none 0 0 := hnil
          go_wp2_with fail
          go_roundw
          case rel => exact ⟨hb3, hv3, .inr (.inr ⟨by go_num, by rw [← cat_cells]; exact hown⟩)⟩
          case measure => simp [intOf]
        · go_wp2_with fail
          go_ret
          obtain ⟨g, cc, rfl, hg, hcc, hB, -⟩ := own_at ho hv2 (cat_lt HX.out.lt HY.out.lt)
          exact ⟨g, cc, rfl, hg, hcc, hB, hb2⟩

set_option maxRecDepth 100000 in
set_option maxHeartbeats 400000 in
theorem isbyte_any (c : Nat) (hc : c < 256) (w : World) :
    Calls Try.prog 66 #[.int .u8 c] w fun e w' => e = .returned (.bool (decide (c ≠ 0))) ∧ w' = w := by
  by_cases h : c = 0
  · subst h
    go_enter Try.func66, Try.ntmps66
    go_wp2
    go_ret
    exact ⟨rfl, rfl⟩
  · have h1 : ((c : Int) == 0) = false := by simp; omega
    have h2 : ((c : Int) != 0) = true := by simp; omega
    rw [decide_eq_true h]
    go_enter Try.func66, Try.ntmps66
    go_wp2
    go_ret
    exact ⟨rfl, rfl⟩

/-- What 'lead' answers: the first place that is not 0, or -1. -/
def leadOf (x : Nat → Nat) : Nat → Nat → Int
  | 0, _ => -1
  | f + 1, i => if x i = 0 then leadOf x f (i + 1) else (i : Int)

set_option maxRecDepth 100000 in
set_option maxHeartbeats 400000 in
theorem index_any (a : Option Addr) (n c : Nat) (x : Nat → Nat) (w : World) (hx : BytesAt w a n x) (hn : n ≤ 1000000) :
    Calls Try.prog 65 #[.slice a n c, .func (.func 66) #[] #[]] w fun e w' => e = .returned (.int .i64 (leadOf x n 0)) ∧ w' = w := by
  go_enter Try.func65, Try.ntmps65
  go_wp2_with fail
  go_loopw [8] (fun i wr => ∃ k : Nat, k ≤ n ∧ i = .int .i64 k ∧ leadOf x n 0 = leadOf x (n - k) k ∧ wr = w) (fun i _ => n - (intOf i).toNat)
  case atStart => exact ⟨0, Nat.zero_le _, rfl, rfl, rfl⟩
  case round =>
    obtain ⟨k, hk, rfl, hl, rfl⟩ := hrel
    by_cases hkn : k < n
    · obtain ⟨b, o, rfl, hc⟩ := hx.cells (by omega)
      have c1 := hc k hkn
      have l1 := hx.lt k hkn
      have i1 : (k : Int) < (n : Int) := by omega
      have HL : Hid (leadOf x n 0 = if x k = 0 then leadOf x (n - (k + 1)) (k + 1) else (k : Int)) := by
        show leadOf x n 0 = _
        rw [hl, show n - k = (n - (k + 1)) + 1 by omega]
        rfl
      clear hl hc hx
      generalize x k = v at *
      go_wp2_with fail
      refine (isbyte_any v l1 _).mono ?_
      rintro e w' ⟨rfl, rfl⟩
      by_cases hv : v = 0
      · subst hv
        rw [show decide ((0 : Nat) ≠ 0) = false by decide]
        go_wp2_with fail
        go_roundw
        case rel => exact ⟨k + 1, by omega, by go_num, by rw [HL.out, if_pos trivial], trivial⟩
        case measure => simp [intOf]; omega
      · rw [decide_eq_true hv]
        go_wp2
        go_ret
        exact ⟨ret_int (by rw [HL.out, if_neg hv]), rfl⟩
    · have hke : k = n := by omega
      subst hke
      rw [Nat.sub_self] at hl
      have HL : Hid (leadOf x k 0 = -1) := hl
      clear hl
      go_wp2
      go_ret
      exact ⟨ret_int HL.out.symm, rfl⟩

set_option maxRecDepth 100000 in
set_option maxHeartbeats 400000 in
theorem lead_any (a : Option Addr) (n c : Nat) (x : Nat → Nat) (w : World) (hx : BytesAt w a n x) (hn : n ≤ 1000000) :
    Calls Try.prog 56 #[.slice a n c] w fun e w' => e = .returned (.int .i64 (leadOf x n 0)) ∧ w' = w := by
  go_enter Try.func56, Try.ntmps56
  go_wp2_with fail
  refine (index_any a n c x _ hx hn).mono ?_
  rintro e w' ⟨rfl, rfl⟩
  go_wp2
  go_ret
  exact ⟨rfl, rfl⟩
end Go.Proofs.Ytgbeklifcchmlaa

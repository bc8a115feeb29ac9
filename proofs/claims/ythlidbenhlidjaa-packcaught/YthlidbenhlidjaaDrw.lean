/-
  Package dice's Row, and the document's.
-/
import Derived.Test.YthlidbenhlidjaaDic
namespace Go.Proofs.Ythlidbenhlidjaa
open Go.RowKit Go.Deep

/-- A new row was answered: the one of the frame's symbol. -/
def RowAns (w : World) (f s k : Nat) (e : Ending) (w' : World) : Prop :=
  ∃ b, e = .returned (.tuple #[.slice (some ⟨b, 0, none⟩) k k, .bool true]) ∧ w.heap.size ≤ b ∧ BytesAt w' (some ⟨b, 0, none⟩) k (Dice.rowOf f s k) ∧ Below w.heap.size w w'

theorem rowOf_unit {f s k : Nat} (h : s < k) : (fun i => if i = s then 1 else 0) = Dice.rowOf f s k := by
  funext i
  unfold Dice.rowOf
  rw [if_pos h]
theorem rowOf_mixed {f s k : Nat} (h : ¬ s < k) : Dice.row (Dice.start f s) k = Dice.rowOf f s k := by
  funext i
  unfold Dice.rowOf
  rw [if_neg h]

set_option maxRecDepth 100000 in
set_option maxHeartbeats 400000 in
theorem drow_no (f s k : Int) (w : World) (hno : ¬ (1 ≤ k ∧ k ≤ 32 ∧ 0 ≤ s ∧ s < k + 64)) :
    Calls Try.prog 36 #[.int .u32 f, .int .i64 s, .int .i64 k] w fun e w' => e = .returned (.tuple #[.slice none 0 0, .bool false]) ∧ w' = w := by
  by_cases c1 : k < 1
  · go_enter Try.func36, Try.ntmps36
    go_wp2
    go_ret2
    exact ⟨rfl, rfl⟩
  by_cases c2 : 32 < k
  · go_enter Try.func36, Try.ntmps36
    go_wp2
    go_ret2
    exact ⟨rfl, rfl⟩
  by_cases c3 : s < 0
  · go_enter Try.func36, Try.ntmps36
    go_wp2
    go_ret2
    exact ⟨rfl, rfl⟩
  have c4 : k + 64 ≤ s := by omega
  go_enter Try.func36, Try.ntmps36
  go_wp2
  go_ret2
  exact ⟨rfl, rfl⟩

set_option maxRecDepth 100000 in
set_option maxHeartbeats 400000 in
theorem drow_yes (f s k : Nat) (w : World) (hf : f < 4294967296) (k1 : 1 ≤ k) (k2 : k ≤ 32) (hs : s < k + 64) :
    Calls Try.prog 36 #[.int .u32 (f : Int), .int .i64 (s : Int), .int .i64 (k : Int)] w fun e w' => RowAns w f s k e w' := by
  have i1 : (1 : Int) ≤ (k : Int) := by omega
  have i2 : (k : Int) ≤ 32 := by omega
  have i3 : (s : Int) < (k : Int) + 64 := by omega
  by_cases hsk : s < k
  · have i4 : (s : Int) < (k : Int) := by omega
    go_enter Try.func36, Try.ntmps36
    go_wp2_with fail
    refine (unit_any s k _ hsk k2).mono ?_
    rintro e w1 ⟨rfl, B1, b1⟩
    rw [rowOf_unit (f := f) hsk] at B1
    go_wp2
    go_ret2
    exact ⟨_, rfl, Nat.le_refl _, B1, b1⟩
  · have i4 : ¬ (s : Int) < (k : Int) := by omega
    have b1 : Below w.heap.size w (w.alloc (.cells #[.int .u32 (Dice.start f s : Int)] 105)) := (Below.refl _ _).alloc (Nat.le_refl _) _
    have G1 : GenAt (w.alloc (.cells #[.int .u32 (Dice.start f s : Int)] 105)) w.heap.size (Dice.start f s) :=
      ⟨by rw [World.cell?_alloc_at _ _ _ _ rfl]; rfl, World.frozen?_alloc_at _ _ _ _ rfl⟩
    have s1 : (w.alloc (.cells #[.int .u32 (Dice.start f s : Int)] 105)).heap.size = w.heap.size + 1 := by simp
    have lx := Dice.start_lt f s
    have HM : Hid (Dice.row (Dice.start f s) k = Dice.rowOf f s k) := rowOf_mixed hsk
    go_enter Try.func36, Try.ntmps36
    go_wp2_with fail
    refine (gen_any f s _ hf (by omega)).mono ?_
    rintro e w1 ⟨rfl, rfl⟩
    generalize Dice.start f s = x at *
    generalize w.alloc (.cells #[.int .u32 (x : Int)] 105) = w1 at *
    go_wp2_with fail
    refine (mixed_any k w.heap.size x _ G1 lx k1 k2).mono ?_
    rintro e w2 ⟨rfl, B2, K2⟩
    rw [HM.out] at B2
    have b2 : Below w.heap.size w w2 := b1.trans (K2.below (Nat.le_refl _) (by omega))
    have s2 : w.heap.size ≤ w1.heap.size := by omega
    clear G1 s1 K2 b1
    go_wp2
    go_ret2
    exact ⟨_, rfl, s2, B2, b2⟩

set_option maxRecDepth 100000 in
set_option maxHeartbeats 400000 in
theorem rrow_no (f s k : Int) (w : World) (hno : ¬ (1 ≤ k ∧ k ≤ 32 ∧ 0 ≤ s ∧ s < k + 64)) :
    Calls Try.prog 26 #[.int .u32 f, .int .i64 s, .int .i64 k] w fun e w' => e = .returned (.tuple #[.slice none 0 0, .bool false]) ∧ w' = w := by
  by_cases c1 : k < 1
  · go_enter Try.func26, Try.ntmps26
    go_wp2
    go_ret2
    exact ⟨rfl, rfl⟩
  by_cases c2 : 32 < k
  · go_enter Try.func26, Try.ntmps26
    go_wp2
    go_ret2
    exact ⟨rfl, rfl⟩
  by_cases c3 : s < 0
  · go_enter Try.func26, Try.ntmps26
    go_wp2
    go_ret2
    exact ⟨rfl, rfl⟩
  have c4 : k + 64 ≤ s := by omega
  go_enter Try.func26, Try.ntmps26
  go_wp2
  go_ret2
  exact ⟨rfl, rfl⟩

theorem zero_no {x j : Nat} (h : false = true ↔ ∀ t, t < j → Dice.raw x t = 0) : false = true ↔ ∀ t, t < j + 1 → Dice.raw x t = 0 :=
  ⟨(fun e => nomatch e), fun g => h.2 fun t ht => g t (by omega)⟩
theorem zero_yes {x j : Nat} (h : true = true ↔ ∀ t, t < j → Dice.raw x t = 0) : ((Dice.raw x j : Int) == 0) = true ↔ ∀ t, t < j + 1 → Dice.raw x t = 0 := by
  refine ⟨fun e t ht => ?_, fun g => by rw [g j (by omega)]; rfl⟩
  have e := eq_of_beq e
  by_cases et : t = j
  · subst et; omega
  · exact h.1 rfl t (by omega)

set_option maxRecDepth 100000 in
set_option maxHeartbeats 1000000 in
theorem rrow_yes (f s k : Nat) (w : World) (hf : f < 4294967296) (k1 : 1 ≤ k) (k2 : k ≤ 32) (hs : s < k + 64) :
    Calls Try.prog 26 #[.int .u32 (f : Int), .int .i64 (s : Int), .int .i64 (k : Int)] w fun e w' => RowAns w f s k e w' := by
  have i1 : (1 : Int) ≤ (k : Int) := by omega
  have i2 : (k : Int) ≤ 32 := by omega
  have i3 : (s : Int) < (k : Int) + 64 := by omega
  have hmk := run_make_row' (P := Try.prog) 26 5 (.int .u8 0) 1 Try.underlying26 Try.infoByte rfl .i64 .i64 k (by omega) (by omega)
  by_cases hsk : s < k
  · have i4 : (s : Int) < (k : Int) := by omega
    have g3 : (madeCells #[.int .u8 0] k)[s]? = some (.int .u8 0) := by
      rw [← World.cell?_alloc_at (w := w) _ 5 w.heap.size s rfl]
      exact (World.rowIs_made w (.int .u8 0) k 5).cell hsk
    have HR : Hid (BytesAt (w.alloc (.cells ((madeCells #[.int .u8 0] k).setIfInBounds s (.int .u8 1)) 5)) (some ⟨w.heap.size, 0, none⟩) k (Dice.rowOf f s k)) := by
      show BytesAt _ _ _ _
      rw [← World.setCell_alloc_at (w := w) _ _ w.heap.size s _ rfl, ← rowOf_unit (f := f) hsk]
      exact row_bytes (unitA_set (World.rowIs_made w (.int .u8 0) k 5)) fun i _ => ⟨by split <;> decide, rfl⟩
    go_enter Try.func26, Try.ntmps26
    go_wp2
    go_ret2
    exact ⟨_, rfl, Nat.le_refl _, HR.out, (Below.refl _ _).alloc (Nat.le_refl _) _⟩
  · have i4 : ¬ (s : Int) < (k : Int) := by omega
    have b1 : Below w.heap.size w (w.alloc (.cells (madeCells #[.int .u8 0] k) 5)) := (Below.refl _ _).alloc (Nat.le_refl _) _
    have R1 : (w.alloc (.cells (madeCells #[.int .u8 0] k) 5)).rowIs w.heap.size 5 k (rawA (Dice.start f s) 0) := (World.rowIs_made w (.int .u8 0) k 5).congr fun i _ => by unfold rawA; simp
    have HM : Hid (Dice.row (Dice.start f s) k = Dice.rowOf f s k) := rowOf_mixed hsk
    have LX : Hid (Dice.start f s < 4294967296) := Dice.start_lt f s
    have SY : Hid (_ → _) := start_yes f s
    have SN : Hid (_ → _) := start_no f s
    clear hsk hs
    go_enter Try.func26, Try.ntmps26
    go_wp2_with fail
    all_goals
      rename_i h _ _
      clear hmk
      generalize Dice.start f s = x at *
      generalize w.alloc (.cells (madeCells #[.int .u8 0] k) 5) = w1 at *
      go_loopw [9, 10, 11] (fun xo zo i wr => ∃ (j : Nat) (z : Bool), j ≤ k ∧ xo = .int .u64 (Dice.nth x j : Int) ∧ zo = .bool z ∧ i = .int .i64 j ∧ (z = true ↔ ∀ t, t < j → Dice.raw x t = 0) ∧ wr.rowIs w.heap.size 5 k (rawA x j) ∧ Below w.heap.size w wr) (fun _ _ i _ => k - (intOf i).toNat)
      case atStart =>
        refine ⟨0, true, Nat.zero_le _, ?_, rfl, rfl, by simp, R1, b1⟩
        first
        | exact congrArg (Value.int .u64) (SN.out h).symm
        | (show _ = Value.int .u64 (x : Int); rw [SY.out h]; rfl)
      case round =>
        clear R1 b1 SY SN h
        obtain ⟨j, z, hj, rfl, rfl, rfl, hz, R, b⟩ := hrel
        have HR : Hid (wr.rowIs w.heap.size 5 k (rawA x j)) := R
        have HZ : Hid (z = true ↔ ∀ t, t < j → Dice.raw x t = 0) := hz
        have HB : Hid (Below w.heap.size w wr) := b
        clear hz b
        by_cases hjk : j < k
        · have i5 : (j : Int) < (k : Int) := by omega
          have l0 := Dice.nth_lt x j LX.out
          have l1 := Dice.t1_lt _ l0
          have l2 := Dice.t2_lt _ l1
          have HT : Hid (Dice.t3 (Dice.t2 (Dice.t1 (Dice.nth x j))) = Dice.nth x (j + 1)) := (rfl : _ = _)
          have l3 := Dice.nth_lt x (j + 1) LX.out
          have HW : Hid (Dice.byt (Dice.nth x (j + 1)) = Dice.raw x j) := (rfl : _ = _)
          have lr := Dice.raw_lt x j
          have e1 : bits .xor .u64 (Dice.nth x j : Int) ((Dice.nth x j : Int) * 8192 % 4294967296) = (Dice.t1 (Dice.nth x j) : Int) := u64_xor _ (Dice.nth x j * 8192 % 4294967296) l0 (Nat.mod_lt _ (by decide))
          have e2 : bits .xor .u64 (Dice.t1 (Dice.nth x j) : Int) ((Dice.t1 (Dice.nth x j) : Int) / 131072) = (Dice.t2 (Dice.t1 (Dice.nth x j)) : Int) := u64_xor _ (Dice.t1 (Dice.nth x j) / 131072) l1 (by omega)
          have e3 : bits .xor .u64 (Dice.t2 (Dice.t1 (Dice.nth x j)) : Int) ((Dice.t2 (Dice.t1 (Dice.nth x j)) : Int) * 32 % 4294967296) = (Dice.nth x (j + 1) : Int) := u64_xor _ (Dice.t2 (Dice.t1 (Dice.nth x j)) * 32 % 4294967296) l2 (Nat.mod_lt _ (by decide))
          have e4 : (Dice.nth x (j + 1) : Int) / 2048 % 256 = (Dice.raw x j : Int) := by rw [← HW.out]; unfold Dice.byt; omega
          obtain ⟨v3, c3⟩ : ∃ v, wr.cell? ⟨w.heap.size, j, none⟩ = some v := ⟨_, R.cell hjk⟩
          have f3 := R.frozen j
          clear R HW HT
          generalize Dice.t1 (Dice.nth x j) = y1 at *
          generalize Dice.t2 y1 = y2 at *
          generalize Dice.nth x j = y0 at *
          cases z
          · go_wp2
            go_roundw
            case rel => exact ⟨j + 1, false, by omega, rfl, rfl, by go_num, zero_no HZ.out, rawA_set HR.out, HB.out.setCell (Nat.le_refl _) _⟩
            case measure => simp [intOf]; omega
          · go_wp2
            go_roundw
            case rel => exact ⟨j + 1, _, by omega, rfl, rfl, by go_num, zero_yes HZ.out, rawA_set HR.out, HB.out.setCell (Nat.le_refl _) _⟩
            case measure => simp [intOf]; omega
        · have hje : j = k := by omega
          subst hje
          have c3 := R.cell (i := 0) (by omega)
          have f3 := R.frozen 0
          clear R hjk hj
          cases z
          · have HN : Hid (¬ ∀ t, t < j → Dice.raw x t = 0) := fun g => nomatch HZ.out.2 g
            go_wp2
            go_ret2
            exact ⟨_, rfl, Nat.le_refl _, by rw [← HM.out]; exact raw_bytes HR.out HN.out, HB.out⟩
          · have HN : Hid (∀ t, t < j → Dice.raw x t = 0) := HZ.out.1 rfl
            go_wp2
            go_ret2
            exact ⟨_, rfl, Nat.le_refl _, by rw [← HM.out]; exact raw_bytes0 HR.out HN.out, HB.out.setCell (Nat.le_refl _) _⟩
end Go.Proofs.Ythlidbenhlidjaa

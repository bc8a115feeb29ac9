/-
  Several texts, one behind the other.
-/
import Derived.Test.YthlidbenhlidjaaJ1
import Derived.Test.YthlidbenhlidjaaJ2
/-
  Package dice: its generator, and the rows that it makes.
-/
namespace Go.Proofs.Ythlidbenhlidjaa
open Go.RowKit Go.Deep

namespace Dice
def t1 (x : Nat) : Nat := x ^^^ (x * 8192 % 4294967296)
def t2 (x : Nat) : Nat := x ^^^ (x / 131072)
def t3 (x : Nat) : Nat := x ^^^ (x * 32 % 4294967296)
/-- x, turned once. -/
def turn (x : Nat) : Nat := t3 (t2 (t1 x))
/-- The byte of x. -/
def byt (x : Nat) : Nat := x / 2048 % 256
/-- x, turned n times. -/
def nth (x : Nat) : Nat → Nat
  | 0 => x
  | n + 1 => turn (nth x n)
/-- The bytes one behind the other, with no look at whether all are 0. -/
def raw (x i : Nat) : Nat := byt (nth x (i + 1))
/-- The bytes of a row that starts with x. -/
def row (x k i : Nat) : Nat := if (∀ j, j < k → raw x j = 0) ∧ i = 0 then 1 else raw x i
/-- 1, if x is 0. -/
def pos (x : Nat) : Nat := if x = 0 then 1 else x
theorem pos_ne (x : Nat) (h : x ≠ 0) : pos x = x := if_neg h
/-- What a frame's symbol starts with. -/
def start (f s : Nat) : Nat := pos ((f * 2654435761 + s * 40503 + 1) % 4294967296)
/-- The row of a frame's symbol. -/
def rowOf (f s k i : Nat) : Nat := if s < k then (if i = s then 1 else 0) else row (start f s) k i

theorem xor_lt (a b : Nat) (ha : a < 4294967296) (hb : b < 4294967296) : a ^^^ b < 4294967296 := Nat.xor_lt_two_pow (n := 32) ha hb
theorem t1_lt (x : Nat) (h : x < 4294967296) : t1 x < 4294967296 := xor_lt _ _ h (Nat.mod_lt _ (by decide))
theorem t2_lt (x : Nat) (h : x < 4294967296) : t2 x < 4294967296 := xor_lt _ _ h (by omega)
theorem t3_lt (x : Nat) (h : x < 4294967296) : t3 x < 4294967296 := xor_lt _ _ h (Nat.mod_lt _ (by decide))
theorem turn_lt (x : Nat) (h : x < 4294967296) : turn x < 4294967296 := t3_lt _ (t2_lt _ (t1_lt _ h))
theorem nth_lt (x n : Nat) (h : x < 4294967296) : nth x n < 4294967296 := by
  induction n with
  | zero => exact h
  | succ n ih => exact turn_lt _ ih
theorem byt_lt (x : Nat) : byt x < 256 := Nat.mod_lt _ (by decide)
theorem raw_lt (x i : Nat) : raw x i < 256 := byt_lt _
theorem row_lt (x k i : Nat) : row x k i < 256 := by
  unfold row
  split
  · decide
  · exact raw_lt _ _
theorem rowOf_lt (f s k i : Nat) : rowOf f s k i < 256 := by
  unfold rowOf
  split
  · split <;> decide
  · exact row_lt _ _ _
theorem start_lt (f s : Nat) : start f s < 4294967296 := by
  have h : (f * 2654435761 + s * 40503 + 1) % 4294967296 < 4294967296 := Nat.mod_lt _ (by decide)
  unfold start
  generalize (f * 2654435761 + s * 40503 + 1) % 4294967296 = x at *
  unfold pos
  split
  · decide
  · exact h
end Dice

/-- The block g holds a generator at x. -/
structure GenAt (w : World) (g x : Nat) : Prop where
  cell : w.cell? ⟨g, 0, none⟩ = some (.int .u32 (x : Int))
  thaw : w.frozen? ⟨g, 0, none⟩ = false
theorem GenAt.set {w : World} {g x : Nat} (h : GenAt w g x) (y : Nat) : GenAt ((w.setCell ⟨g, 0, none⟩ (.int .u32 (y : Int))).drew) g y ∧ Kept g w ((w.setCell ⟨g, 0, none⟩ (.int .u32 (y : Int))).drew) ∧ ((w.setCell ⟨g, 0, none⟩ (.int .u32 (y : Int))).drew).heap.size = w.heap.size := by
  refine ⟨⟨?_, ?_⟩, (Kept.set w 0 _).trans (Kept.of_same ⟨1, rfl⟩), by simp [World.setCell]⟩
  · show (w.setCell ⟨g, 0, none⟩ (.int .u32 (y : Int))).cell? ⟨g, 0, none⟩ = _
    rw [World.cell?_setCell_same _ _ _ h.cell]
  · have := h.thaw
    simpa using this
theorem GenAt.same {w w' : World} {g x : Nat} (h : GenAt w g x) (q : Same w w') : GenAt w' g x := by
  obtain ⟨n, rfl⟩ := q
  exact ⟨h.cell, h.thaw⟩
theorem GenAt.kept {w w' : World} {g x R : Nat} (h : GenAt w g x) (q : Kept R w w') (hR : g ≠ R) : GenAt w' g x :=
  ⟨q.cell h.cell hR, (World.frozen?_of_block (a := ⟨g, 0, none⟩) (q.block g (cell_lt h.cell) hR)).trans h.thaw⟩

set_option maxRecDepth 100000 in
set_option maxHeartbeats 400000 in
theorem step_any (g x : Nat) (w : World) (h : GenAt w g x) (hx : x < 4294967296) :
    Calls Try.prog 47 #[.pointer (some ⟨g, 0, none⟩)] w fun e w' => e = .returned (.int .u8 (Dice.byt (Dice.turn x) : Int)) ∧ GenAt w' g (Dice.turn x) ∧ Kept g w w' ∧ w'.heap.size = w.heap.size := by
  have l1 := Dice.t1_lt x hx
  have l2 := Dice.t2_lt _ l1
  have e1 : bits .xor .u32 (x : Int) ((x : Int) * 8192 % 4294967296) = (Dice.t1 x : Int) := u32_xor x (x * 8192 % 4294967296) hx (Nat.mod_lt _ (by decide))
  have e2 : bits .xor .u32 (Dice.t1 x : Int) ((Dice.t1 x : Int) / 131072) = (Dice.t2 (Dice.t1 x) : Int) := u32_xor _ (Dice.t1 x / 131072) l1 (by omega)
  have e3 : bits .xor .u32 (Dice.t2 (Dice.t1 x) : Int) ((Dice.t2 (Dice.t1 x) : Int) * 32 % 4294967296) = (Dice.turn x : Int) := u32_xor _ (Dice.t2 (Dice.t1 x) * 32 % 4294967296) l2 (Nat.mod_lt _ (by decide))
  have HB : Hid ((Dice.turn x : Int) / 2048 % 256 = (Dice.byt (Dice.turn x) : Int)) := by show (_ : Int) = _; unfold Dice.byt; omega
  obtain ⟨G1, K1, s1⟩ := h.set (Dice.t1 x)
  have hc := h.cell
  have hf := h.thaw
  go_enter Try.func47, Try.ntmps47
  go_wp2_with fail
  go_region
  generalize (w.setCell ⟨g, 0, none⟩ (.int .u32 (Dice.t1 x : Int))).drew = w1 at *
  obtain ⟨G2, K2, s2⟩ := G1.set (Dice.t2 (Dice.t1 x))
  have hc := G1.cell
  have hf := G1.thaw
  go_wp2_with fail
  go_region
  generalize (w1.setCell ⟨g, 0, none⟩ (.int .u32 (Dice.t2 (Dice.t1 x) : Int))).drew = w2 at *
  obtain ⟨G3, K3, s3⟩ := G2.set (Dice.turn x)
  have hc := G2.cell
  have hf := G2.thaw
  go_wp2_with fail
  go_region
  generalize (w2.setCell ⟨g, 0, none⟩ (.int .u32 (Dice.turn x : Int))).drew = w3 at *
  have hc := G3.cell
  go_wp2
  go_ret
  exact ⟨ret_int HB.out, G3, (K1.trans K2).trans K3, by omega⟩

theorem cast_sum (f s a b m : Nat) : (((f * a + s * b + 1) % m : Nat) : Int) = ((f : Int) * (a : Int) + (s : Int) * (b : Int) + 1) % (m : Int) := by
  rw [Int.natCast_emod, Int.natCast_add, Int.natCast_add, Int.natCast_mul, Int.natCast_mul]
  rfl
theorem cast_pos {n : Nat} {i : Int} (e : (n : Int) = i) (h : (i == 0) = true) : Dice.pos n = 1 := by
  have h := eq_of_beq h
  obtain rfl : n = 0 := by omega
  rfl
theorem cast_ne {n : Nat} {i : Int} (e : (n : Int) = i) (h : (i == 0) = false) : (Dice.pos n : Int) = i := by
  have h := ne_of_beq_false h
  rw [Dice.pos_ne n (by omega)]
  exact e
theorem start_yes (f s : Nat) (h : (((f : Int) * 2654435761 + (s : Int) * 40503 + 1) % 4294967296 == 0) = true) : Dice.start f s = 1 := cast_pos (cast_sum f s 2654435761 40503 4294967296) h
theorem start_no (f s : Nat) (h : (((f : Int) * 2654435761 + (s : Int) * 40503 + 1) % 4294967296 == 0) = false) : (Dice.start f s : Int) = ((f : Int) * 2654435761 + (s : Int) * 40503 + 1) % 4294967296 := cast_ne (cast_sum f s 2654435761 40503 4294967296) h

set_option maxRecDepth 100000 in
set_option maxHeartbeats 400000 in
theorem gen_any (f s : Nat) (w : World) (_hf : f < 4294967296) (hs : s < 4294967296) :
    Calls Try.prog 46 #[.int .u32 (f : Int), .int .i64 (s : Int)] w fun e w' => e = .returned (.pointer (some ⟨w.heap.size, 0, none⟩)) ∧ w' = w.alloc (.cells #[.int .u32 (Dice.start f s : Int)] 105) := by
  go_enter Try.func46, Try.ntmps46
  go_wp2
  · rename_i h
    go_ret
    exact ⟨rfl, by rw [start_yes f s h]; rfl⟩
  · rename_i h
    go_ret
    exact ⟨rfl, by rw [start_no f s h]⟩

/-- A row of k bytes, all 0 but the one at s. -/
def unitA (s i : Nat) : Value := .int .u8 ((if i = s then 1 else 0 : Nat) : Int)
/-- A row whose first j bytes are there. -/
def rawA (x j i : Nat) : Value := .int .u8 ((if i < j then Dice.raw x i else 0 : Nat) : Int)
theorem unitA_set {w : World} {B t K s : Nat} (h : w.rowIs B t K (fun _ => .int .u8 0)) : (w.setCell ⟨B, s, none⟩ (.int .u8 1)).rowIs B t K (unitA s) := by
  refine (h.set s _).congr fun i _ => ?_
  unfold unitA
  by_cases e : i = s
  · subst e; simp
  · simp [e]
theorem rawA_set {w : World} {B t K x j : Nat} (h : w.rowIs B t K (rawA x j)) : (w.setCell ⟨B, j, none⟩ (.int .u8 (Dice.raw x j : Int))).rowIs B t K (rawA x (j + 1)) := by
  refine (h.set j _).congr fun i _ => ?_
  unfold rawA
  by_cases e : i = j
  · subst e; simp
  · by_cases g : i < j
    · simp [e, g, show i < j + 1 by omega]
    · simp [e, g, show ¬ i < j + 1 by omega]
theorem row_bytes {w : World} {B t K : Nat} {A : Nat → Value} {x : Nat → Nat} (h : w.rowIs B t K A) (hx : ∀ i, i < K → x i < 256 ∧ A i = .int .u8 (x i : Int)) : BytesAt w (some ⟨B, 0, none⟩) K x :=
  ⟨fun _ => ⟨B, 0, rfl, fun i hi => by rw [Nat.zero_add, h.cell hi, (hx i hi).2]⟩, fun i hi => (hx i hi).1⟩
theorem raw_bytes {w : World} {B t K x : Nat} (h : w.rowIs B t K (rawA x K)) (hn : ¬ ∀ j, j < K → Dice.raw x j = 0) : BytesAt w (some ⟨B, 0, none⟩) K (Dice.row x K) :=
  row_bytes h fun i hi => ⟨Dice.row_lt _ _ _, by unfold rawA Dice.row; rw [if_pos hi, if_neg fun g => hn g.1]⟩
theorem raw_bytes0 {w : World} {B t K x : Nat} (h : w.rowIs B t K (rawA x K)) (hn : ∀ j, j < K → Dice.raw x j = 0) : BytesAt (w.setCell ⟨B, 0, none⟩ (.int .u8 1)) (some ⟨B, 0, none⟩) K (Dice.row x K) :=
  row_bytes (h.set 0 _) fun i hi => ⟨Dice.row_lt _ _ _, by
    unfold rawA Dice.row
    by_cases e : i = 0
    · rw [if_pos e, if_pos ⟨hn, e⟩]; rfl
    · rw [if_neg e, if_pos hi, if_neg fun g => e g.2]⟩

set_option maxRecDepth 100000 in
set_option maxHeartbeats 400000 in
theorem unit_any (s k : Nat) (w : World) (hs : s < k) (hk : k ≤ 32) :
    Calls Try.prog 44 #[.int .i64 (s : Int), .int .i64 (k : Int)] w fun e w' => e = .returned (.slice (some ⟨w.heap.size, 0, none⟩) k k) ∧ BytesAt w' (some ⟨w.heap.size, 0, none⟩) k (fun i => if i = s then 1 else 0) ∧ Below w.heap.size w w' := by
  have hmk := run_make_row' (P := Try.prog) 26 5 (.int .u8 0) 1 Try.underlying26 Try.infoByte rfl .i64 .i64 k (by omega) (by omega)
  have i1 : (s : Int) < (k : Int) := by omega
  have g3 : (madeCells #[.int .u8 0] k)[s]? = some (.int .u8 0) := by
    rw [← World.cell?_alloc_at (w := w) _ 5 w.heap.size s rfl]
    exact (World.rowIs_made w (.int .u8 0) k 5).cell hs
  have HR : Hid ((w.alloc (.cells ((madeCells #[.int .u8 0] k).setIfInBounds s (.int .u8 1)) 5)).rowIs w.heap.size 5 k (unitA s)) := by
    show World.rowIs _ _ _ _ _
    rw [← World.setCell_alloc_at (w := w) _ _ w.heap.size s _ rfl]
    exact unitA_set (World.rowIs_made w (.int .u8 0) k 5)
  go_enter Try.func44, Try.ntmps44
  go_wp2
  go_ret
  exact ⟨rfl, row_bytes HR.out fun i _ => ⟨by split <;> decide, rfl⟩, (Below.refl _ _).alloc (Nat.le_refl _) _⟩

theorem or_zero (a b : Nat) : a ||| b = 0 ↔ a = 0 ∧ b = 0 := by
  have h1 : a ≤ a ||| b := Nat.left_le_or
  have h2 : b ≤ a ||| b := Nat.right_le_or
  refine ⟨fun h => by omega, ?_⟩
  rintro ⟨rfl, rfl⟩
  rfl
theorem all_succ (x j s : Nat) (h : s = 0 ↔ ∀ t, t < j → Dice.raw x t = 0) : (s ||| Dice.raw x j) = 0 ↔ ∀ t, t < j + 1 → Dice.raw x t = 0 := by
  rw [or_zero, h]
  refine ⟨fun g t ht => ?_, fun g => ⟨fun t ht => g t (by omega), g j (by omega)⟩⟩
  by_cases e : t = j
  · subst e; exact g.2
  · exact g.1 t (by omega)

/-- A store into a block that was not there. -/
theorem Kept.trans_set {R : Nat} {w w' : World} (h : Kept R w w') (_ : w'.heap.size = w.heap.size + 1) {i : Nat} {v : Value} : Kept R w (w'.setCell ⟨w.heap.size, i, none⟩ v) :=
  ⟨h.os, h.tape, h.output, by have := h.size; simpa [World.setCell] using this, fun k hk hR => (Below.heap_setCell w' ⟨w.heap.size, i, none⟩ v k (by show k ≠ w.heap.size; omega)).trans (h.block k hk hR)⟩

set_option maxRecDepth 100000 in
set_option maxHeartbeats 400000 in
theorem mixed_any (k g x : Nat) (w : World) (h : GenAt w g x) (hx : x < 4294967296) (k1 : 1 ≤ k) (k2 : k ≤ 32) :
    Calls Try.prog 45 #[.int .i64 (k : Int), .func (.func 47) #[.pointer (some ⟨g, 0, none⟩)] #[]] w fun e w' => e = .returned (.slice (some ⟨w.heap.size, 0, none⟩) k k) ∧ BytesAt w' (some ⟨w.heap.size, 0, none⟩) k (Dice.row x k) ∧ Kept g w w' := by
  have hmk := run_make_row' (P := Try.prog) 26 5 (.int .u8 0) 1 Try.underlying26 Try.infoByte rfl .i64 .i64 k (by omega) (by omega)
  have hg : g < w.heap.size := cell_lt h.cell
  have hr : (w.alloc (.cells (madeCells #[.int .u8 0] k) 5)).rowIs w.heap.size 5 k (rawA x 0) := (World.rowIs_made w (.int .u8 0) k 5).congr fun i _ => by unfold rawA; simp
  have b3 : Below w.heap.size w (w.alloc (.cells (madeCells #[.int .u8 0] k) 5)) := (Below.refl _ _).alloc (Nat.le_refl _) _
  have K3 : Kept g w (w.alloc (.cells (madeCells #[.int .u8 0] k) 5)) := Kept.of_below b3
  have G3 : GenAt (w.alloc (.cells (madeCells #[.int .u8 0] k) 5)) g x := h.kept (Kept.of_below (R := w.heap.size) b3) (by omega)
  have s3 : (w.alloc (.cells (madeCells #[.int .u8 0] k) 5)).heap.size = w.heap.size + 1 := by simp
  go_enter Try.func45, Try.ntmps45
  go_wp2_with fail
  clear hmk
  generalize w.alloc (.cells (madeCells #[.int .u8 0] k) 5) = w1 at *
  go_loopw [6, 12] (fun so i wr => ∃ j s : Nat, j ≤ k ∧ i = .int .i64 j ∧ so = .int .u8 s ∧ s < 256 ∧ (s = 0 ↔ ∀ t, t < j → Dice.raw x t = 0) ∧ wr.rowIs w.heap.size 5 k (rawA x j) ∧ GenAt wr g (Dice.nth x j) ∧ Kept g w wr ∧ wr.heap.size = w.heap.size + 1) (fun _ i _ => k - (intOf i).toNat)
  case atStart => exact ⟨0, 0, Nat.zero_le _, rfl, rfl, by decide, by simp, hr, G3, K3, s3⟩
  case round =>
    clear hr b3 K3 G3 s3
    obtain ⟨j, s, hj, rfl, rfl, hs, hz, hrow, G, K, hsz⟩ := hrel
    by_cases hjk : j < k
    · have i1 : (j : Int) < (k : Int) := by omega
      have lr := Dice.raw_lt x j
      have HZ : Hid (s = 0 ↔ ∀ t, t < j → Dice.raw x t = 0) := hz
      have HR : Hid (wr.rowIs w.heap.size 5 k (rawA x j)) := hrow
      have HK : Hid (Kept g w wr) := K
      have HO : bits .or .u8 (s : Int) (Dice.raw x j : Int) = ((s ||| Dice.raw x j : Nat) : Int) := u8_or s (Dice.raw x j) hs lr
      have HL : s ||| Dice.raw x j < 256 := Nat.or_lt_two_pow (n := 8) hs lr
      clear hz hrow K
      go_wp2_with fail
      refine (step_any g _ _ G (Dice.nth_lt x j hx)).mono ?_
      rintro e w2 ⟨rfl, G2, K2, s2⟩
      have R2 : w2.rowIs w.heap.size 5 k (rawA x j) := HR.out.of_block (K2.block _ HR.out.lt (by omega))
      have HK2 : Hid (Kept g w w2) := HK.out.trans K2
      obtain ⟨v3, c3⟩ : ∃ v, w2.cell? ⟨w.heap.size, j, none⟩ = some v := ⟨_, R2.cell hjk⟩
      have f3 := R2.frozen j
      have HR2 : Hid (w2.rowIs w.heap.size 5 k (rawA x j)) := R2
      have HG2 : Hid (GenAt w2 g (Dice.nth x (j + 1))) := G2
      have hs2 : w2.heap.size = w.heap.size + 1 := by omega
      have HO2 : bits .or .u8 (s : Int) (Dice.byt (Dice.turn (Dice.nth x j)) : Int) = ((s ||| Dice.raw x j : Nat) : Int) := HO
      clear G G2 HO HR HK K2 R2 s2
      go_wp2
      go_roundw
      case rel => exact ⟨j + 1, s ||| Dice.raw x j, by omega, by go_num, rfl, HL, all_succ x j s HZ.out, rawA_set HR2.out, HG2.out.kept (Kept.set (R := w.heap.size) _ j _) (by omega), HK2.out.trans_set hs2, by simpa [World.setCell] using hs2⟩
      case measure => simp [intOf]; omega
    · have hje : j = k := by omega
      subst hje
      have HR : Hid (wr.rowIs w.heap.size 5 j (rawA x j)) := hrow
      have HK : Hid (Kept g w wr) := K
      have c3 := hrow.cell (i := 0) (by omega)
      have f3 := hrow.frozen 0
      clear hrow K
      by_cases hs0 : s = 0
      · subst hs0
        have HZ : Hid (∀ t, t < j → Dice.raw x t = 0) := hz.1 rfl
        clear hz hjk hj
        go_wp2
        go_ret
        exact ⟨rfl, raw_bytes0 HR.out HZ.out, HK.out.trans_set hsz⟩
      · have HZ : Hid (¬ ∀ t, t < j → Dice.raw x t = 0) := fun g => hs0 (hz.2 g)
        have i1 : ((s : Int) == 0) = false := by simp; omega
        clear hz hjk hj
        go_wp2
        go_ret
        exact ⟨rfl, raw_bytes HR.out HZ.out, HK.out⟩
end Go.Proofs.Ythlidbenhlidjaa

/-
  Package dice's Row, and the document's.
-/
namespace Go.Proofs.Ythlidbenhlidjaa
open Go.RowKit Go.Deep

/-- A new row was answered: the one of the frame's symbol. -/
def RowAns (w : World) (f s k : Nat) (e : Ending) (w' : World) : Prop :=
  ∃ b, e = .returned (.tuple #[.slice (some ⟨b, 0, none⟩) k k, .bool true]) ∧ w.heap.size ≤ b ∧ BytesAt w' (some ⟨b, 0, none⟩) k (Dice.rowOf f s k) ∧ Below w.heap.size w w'

theorem rowOf_unit {f s k : Nat} (h : s < k) : (fun i => if i = s then 1 else 0) = Dice.rowOf f s k := by
  funext i
  unfold Dice.rowOf
  rw [if_pos h]
theorem rowOf_mixed {f s k : Nat} (h : ¬ s < k) : Dice.row (Dice.start f s) k = Dice.rowOf f s k := by
  funext i
  unfold Dice.rowOf
  rw [if_neg h]

set_option maxRecDepth 100000 in
set_option maxHeartbeats 400000 in
theorem drow_no (f s k : Int) (w : World) (hno : ¬ (1 ≤ k ∧ k ≤ 32 ∧ 0 ≤ s ∧ s < k + 64)) :
    Calls Try.prog 36 #[.int .u32 f, .int .i64 s, .int .i64 k] w fun e w' => e = .returned (.tuple #[.slice none 0 0, .bool false]) ∧ w' = w := by
  by_cases c1 : k < 1
  · go_enter Try.func36, Try.ntmps36
    go_wp2
    go_ret2
    exact ⟨rfl, rfl⟩
  by_cases c2 : 32 < k
  · go_enter Try.func36, Try.ntmps36
    go_wp2
    go_ret2
    exact ⟨rfl, rfl⟩
  by_cases c3 : s < 0
  · go_enter Try.func36, Try.ntmps36
    go_wp2
    go_ret2
    exact ⟨rfl, rfl⟩
  have c4 : k + 64 ≤ s := by omega
  go_enter Try.func36, Try.ntmps36
  go_wp2
  go_ret2
  exact ⟨rfl, rfl⟩

set_option maxRecDepth 100000 in
set_option maxHeartbeats 400000 in
theorem drow_yes (f s k : Nat) (w : World) (hf : f < 4294967296) (k1 : 1 ≤ k) (k2 : k ≤ 32) (hs : s < k + 64) :
    Calls Try.prog 36 #[.int .u32 (f : Int), .int .i64 (s : Int), .int .i64 (k : Int)] w fun e w' => RowAns w f s k e w' := by
  have i1 : (1 : Int) ≤ (k : Int) := by omega
  have i2 : (k : Int) ≤ 32 := by omega
  have i3 : (s : Int) < (k : Int) + 64 := by omega
  by_cases hsk : s < k
  · have i4 : (s : Int) < (k : Int) := by omega
    go_enter Try.func36, Try.ntmps36
    go_wp2_with fail
    refine (unit_any s k _ hsk k2).mono ?_
    rintro e w1 ⟨rfl, B1, b1⟩
    rw [rowOf_unit (f := f) hsk] at B1
    go_wp2
    go_ret2
    exact ⟨_, rfl, Nat.le_refl _, B1, b1⟩
  · have i4 : ¬ (s : Int) < (k : Int) := by omega
    have b1 : Below w.heap.size w (w.alloc (.cells #[.int .u32 (Dice.start f s : Int)] 105)) := (Below.refl _ _).alloc (Nat.le_refl _) _
    have G1 : GenAt (w.alloc (.cells #[.int .u32 (Dice.start f s : Int)] 105)) w.heap.size (Dice.start f s) :=
      ⟨by rw [World.cell?_alloc_at _ _ _ _ rfl]; rfl, World.frozen?_alloc_at _ _ _ _ rfl⟩
    have s1 : (w.alloc (.cells #[.int .u32 (Dice.start f s : Int)] 105)).heap.size = w.heap.size + 1 := by simp
    have lx := Dice.start_lt f s
    have HM : Hid (Dice.row (Dice.start f s) k = Dice.rowOf f s k) := rowOf_mixed hsk
    go_enter Try.func36, Try.ntmps36
    go_wp2_with fail
    refine (gen_any f s _ hf (by omega)).mono ?_
    rintro e w1 ⟨rfl, rfl⟩
    generalize Dice.start f s = x at *
    generalize w.alloc (.cells #[.int .u32 (x : Int)] 105) = w1 at *
    go_wp2_with fail
    refine (mixed_any k w.heap.size x _ G1 lx k1 k2).mono ?_
    rintro e w2 ⟨rfl, B2, K2⟩
    rw [HM.out] at B2
    have b2 : Below w.heap.size w w2 := b1.trans (K2.below (Nat.le_refl _) (by omega))
    have s2 : w.heap.size ≤ w1.heap.size := by omega
    clear G1 s1 K2 b1
    go_wp2
    go_ret2
    exact ⟨_, rfl, s2, B2, b2⟩

set_option maxRecDepth 100000 in
set_option maxHeartbeats 400000 in
theorem rrow_no (f s k : Int) (w : World) (hno : ¬ (1 ≤ k ∧ k ≤ 32 ∧ 0 ≤ s ∧ s < k + 64)) :
    Calls Try.prog 26 #[.int .u32 f, .int .i64 s, .int .i64 k] w fun e w' => e = .returned (.tuple #[.slice none 0 0, .bool false]) ∧ w' = w := by
  by_cases c1 : k < 1
  · go_enter Try.func26, Try.ntmps26
    go_wp2
    go_ret2
    exact ⟨rfl, rfl⟩
  by_cases c2 : 32 < k
  · go_enter Try.func26, Try.ntmps26
    go_wp2
    go_ret2
    exact ⟨rfl, rfl⟩
  by_cases c3 : s < 0
  · go_enter Try.func26, Try.ntmps26
    go_wp2
    go_ret2
    exact ⟨rfl, rfl⟩
  have c4 : k + 64 ≤ s := by omega
  go_enter Try.func26, Try.ntmps26
  go_wp2
  go_ret2
  exact ⟨rfl, rfl⟩

theorem zero_no {x j : Nat} (h : false = true ↔ ∀ t, t < j → Dice.raw x t = 0) : false = true ↔ ∀ t, t < j + 1 → Dice.raw x t = 0 :=
  ⟨(fun e => nomatch e), fun g => h.2 fun t ht => g t (by omega)⟩
theorem zero_yes {x j : Nat} (h : true = true ↔ ∀ t, t < j → Dice.raw x t = 0) : ((Dice.raw x j : Int) == 0) = true ↔ ∀ t, t < j + 1 → Dice.raw x t = 0 := by
  refine ⟨fun e t ht => ?_, fun g => by rw [g j (by omega)]; rfl⟩
  have e := eq_of_beq e
  by_cases et : t = j
  · subst et; omega
  · exact h.1 rfl t (by omega)

set_option maxRecDepth 100000 in
set_option maxHeartbeats 1000000 in
theorem rrow_yes (f s k : Nat) (w : World) (hf : f < 4294967296) (k1 : 1 ≤ k) (k2 : k ≤ 32) (hs : s < k + 64) :
    Calls Try.prog 26 #[.int .u32 (f : Int), .int .i64 (s : Int), .int .i64 (k : Int)] w fun e w' => RowAns w f s k e w' := by
  have i1 : (1 : Int) ≤ (k : Int) := by omega
  have i2 : (k : Int) ≤ 32 := by omega
  have i3 : (s : Int) < (k : Int) + 64 := by omega
  have hmk := run_make_row' (P := Try.prog) 26 5 (.int .u8 0) 1 Try.underlying26 Try.infoByte rfl .i64 .i64 k (by omega) (by omega)
  by_cases hsk : s < k
  · have i4 : (s : Int) < (k : Int) := by omega
    have g3 : (madeCells #[.int .u8 0] k)[s]? = some (.int .u8 0) := by
      rw [← World.cell?_alloc_at (w := w) _ 5 w.heap.size s rfl]
      exact (World.rowIs_made w (.int .u8 0) k 5).cell hsk
    have HR : Hid (BytesAt (w.alloc (.cells ((madeCells #[.int .u8 0] k).setIfInBounds s (.int .u8 1)) 5)) (some ⟨w.heap.size, 0, none⟩) k (Dice.rowOf f s k)) := by
      show BytesAt _ _ _ _
      rw [← World.setCell_alloc_at (w := w) _ _ w.heap.size s _ rfl, ← rowOf_unit (f := f) hsk]
      exact row_bytes (unitA_set (World.rowIs_made w (.int .u8 0) k 5)) fun i _ => ⟨by split <;> decide, rfl⟩
    go_enter Try.func26, Try.ntmps26
    go_wp2
    go_ret2
    exact ⟨_, rfl, Nat.le_refl _, HR.out, (Below.refl _ _).alloc (Nat.le_refl _) _⟩
  · have i4 : ¬ (s : Int) < (k : Int) := by omega
    have b1 : Below w.heap.size w (w.alloc (.cells (madeCells #[.int .u8 0] k) 5)) := (Below.refl _ _).alloc (Nat.le_refl _) _
    have R1 : (w.alloc (.cells (madeCells #[.int .u8 0] k) 5)).rowIs w.heap.size 5 k (rawA (Dice.start f s) 0) := (World.rowIs_made w (.int .u8 0) k 5).congr fun i _ => by unfold rawA; simp
    have HM : Hid (Dice.row (Dice.start f s) k = Dice.rowOf f s k) := rowOf_mixed hsk
    have LX : Hid (Dice.start f s < 4294967296) := Dice.start_lt f s
    have SY : Hid (_ → _) := start_yes f s
    have SN : Hid (_ → _) := start_no f s
    clear hsk hs
    go_enter Try.func26, Try.ntmps26
    go_wp2_with fail
    all_goals
      rename_i h _ _
      clear hmk
      generalize Dice.start f s = x at *
      generalize w.alloc (.cells (madeCells #[.int .u8 0] k) 5) = w1 at *
      go_loopw [9, 10, 11] (fun xo zo i wr => ∃ (j : Nat) (z : Bool), j ≤ k ∧ xo = .int .u64 (Dice.nth x j : Int) ∧ zo = .bool z ∧ i = .int .i64 j ∧ (z = true ↔ ∀ t, t < j → Dice.raw x t = 0) ∧ wr.rowIs w.heap.size 5 k (rawA x j) ∧ Below w.heap.size w wr) (fun _ _ i _ => k - (intOf i).toNat)
      case atStart =>
        refine ⟨0, true, Nat.zero_le _, ?_, rfl, rfl, by simp, R1, b1⟩
        first
        | exact congrArg (Value.int .u64) (SN.out h).symm
        | (show _ = Value.int .u64 (x : Int); rw [SY.out h]; rfl)
      case round =>
        clear R1 b1 SY SN h
        obtain ⟨j, z, hj, rfl, rfl, rfl, hz, R, b⟩ := hrel
        have HR : Hid (wr.rowIs w.heap.size 5 k (rawA x j)) := R
        have HZ : Hid (z = true ↔ ∀ t, t < j → Dice.raw x t = 0) := hz
        have HB : Hid (Below w.heap.size w wr) := b
        clear hz b
        by_cases hjk : j < k
        · have i5 : (j : Int) < (k : Int) := by omega
          have l0 := Dice.nth_lt x j LX.out
          have l1 := Dice.t1_lt _ l0
          have l2 := Dice.t2_lt _ l1
          have HT : Hid (Dice.t3 (Dice.t2 (Dice.t1 (Dice.nth x j))) = Dice.nth x (j + 1)) := (rfl : _ = _)
          have l3 := Dice.nth_lt x (j + 1) LX.out
          have HW : Hid (Dice.byt (Dice.nth x (j + 1)) = Dice.raw x j) := (rfl : _ = _)
          have lr := Dice.raw_lt x j
          have e1 : bits .xor .u64 (Dice.nth x j : Int) ((Dice.nth x j : Int) * 8192 % 4294967296) = (Dice.t1 (Dice.nth x j) : Int) := u64_xor _ (Dice.nth x j * 8192 % 4294967296) l0 (Nat.mod_lt _ (by decide))
          have e2 : bits .xor .u64 (Dice.t1 (Dice.nth x j) : Int) ((Dice.t1 (Dice.nth x j) : Int) / 131072) = (Dice.t2 (Dice.t1 (Dice.nth x j)) : Int) := u64_xor _ (Dice.t1 (Dice.nth x j) / 131072) l1 (by omega)
          have e3 : bits .xor .u64 (Dice.t2 (Dice.t1 (Dice.nth x j)) : Int) ((Dice.t2 (Dice.t1 (Dice.nth x j)) : Int) * 32 % 4294967296) = (Dice.nth x (j + 1) : Int) := u64_xor _ (Dice.t2 (Dice.t1 (Dice.nth x j)) * 32 % 4294967296) l2 (Nat.mod_lt _ (by decide))
          have e4 : (Dice.nth x (j + 1) : Int) / 2048 % 256 = (Dice.raw x j : Int) := by rw [← HW.out]; unfold Dice.byt; omega
          obtain ⟨v3, c3⟩ : ∃ v, wr.cell? ⟨w.heap.size, j, none⟩ = some v := ⟨_, R.cell hjk⟩
          have f3 := R.frozen j
          clear R HW HT
          generalize Dice.t1 (Dice.nth x j) = y1 at *
          generalize Dice.t2 y1 = y2 at *
          generalize Dice.nth x j = y0 at *
          cases z
          · go_wp2
            go_roundw
            case rel => exact ⟨j + 1, false, by omega, rfl, rfl, by go_num, zero_no HZ.out, rawA_set HR.out, HB.out.setCell (Nat.le_refl _) _⟩
            case measure => simp [intOf]; omega
          · go_wp2
            go_roundw
            case rel => exact ⟨j + 1, _, by omega, rfl, rfl, by go_num, zero_yes HZ.out, rawA_set HR.out, HB.out.setCell (Nat.le_refl _) _⟩
            case measure => simp [intOf]; omega
        · have hje : j = k := by omega
          subst hje
          have c3 := R.cell (i := 0) (by omega)
          have f3 := R.frozen 0
          clear R hjk hj
          cases z
          · have HN : Hid (¬ ∀ t, t < j → Dice.raw x t = 0) := fun g => nomatch HZ.out.2 g
            go_wp2
            go_ret2
            exact ⟨_, rfl, Nat.le_refl _, by rw [← HM.out]; exact raw_bytes HR.out HN.out, HB.out⟩
          · have HN : Hid (∀ t, t < j → Dice.raw x t = 0) := HZ.out.1 rfl
            go_wp2
            go_ret2
            exact ⟨_, rfl, Nat.le_refl _, by rw [← HM.out]; exact raw_bytes0 HR.out HN.out, HB.out.setCell (Nat.le_refl _) _⟩
end Go.Proofs.Ythlidbenhlidjaa

/-
  Package fount: Symbol.
-/
namespace Go.Proofs.Ythlidbenhlidjaa
open Go.RowKit Go.Deep

/-- The sum of the first t rows of Z, the i-th as often as R i says. -/
def mixTo (R : Nat → Nat) (Z : Nat → Nat → Nat) : Nat → Nat → Nat
  | 0 => fun _ => 0
  | t + 1 => addUp (mixTo R Z t) (Z t) (R t)
/-- Symbol id of the n bytes x in symbols of s bytes. -/
def symOf (f : Nat) (x : Nat → Nat) (n s id : Nat) : Nat → Nat := mixTo (Dice.rowOf f id (cntOf n s)) (piece x n s) (cntOf n s)

theorem freckons_yes (p : Nat) (w : World) (h : FieldAt w p) :
    Calls Try.prog 34 #[.pointer (some ⟨p, 0, none⟩)] w fun e w' => e = .returned (.bool true) ∧ Same w w' := by
  go_enter Try.func34, Try.ntmps34
  go_wp2_with fail
  refine (inv_at p 1 1 _ h (by decide) (by decide) (by decide +kernel)).mono ?_
  rintro e w' ⟨rfl, hq⟩
  go_wp2
  go_ret
  exact ⟨rfl, hq⟩
theorem freckons_nil (w : World) :
    Calls Try.prog 34 #[.pointer none] w fun e w' => e = .returned (.bool false) ∧ w' = w := by
  go_enter Try.func34, Try.ntmps34
  go_wp2_with fail
  refine (nil_inv 1 _).mono ?_
  rintro e w' ⟨rfl, rfl⟩
  go_wp2
  go_ret
  exact ⟨rfl, rfl⟩

/-- Of B and what came behind it, a row of s bytes was answered. -/
def MixAns (w : World) (B s : Nat) (y : Nat → Nat) (e : Ending) (w' : World) : Prop :=
  ∃ b, e = .returned (.slice (some ⟨b, 0, none⟩) s s) ∧ B ≤ b ∧ BytesAt w' (some ⟨b, 0, none⟩) s y ∧ Below w.heap.size w w'

theorem PcsTo.grew {w w' : World} {L n s j : Nat} {x : Nat → Nat} {A : Nat → Value} (h : PcsTo w L n s x j A) (hb : Below w.heap.size w w') : PcsTo w' L n s x j A := fun i hi => by
  obtain ⟨b, h1, h2, h3⟩ := h i hi
  exact ⟨b, h1, h2, h3.grew hb⟩

set_option maxRecDepth 100000 in
set_option maxHeartbeats 400000 in
theorem fmixed_any (p g q L n s k B : Nat) (x R : Nat → Nat) (A : Nat → Value) (w : World) (h : FieldAt w p) (hs : BytesAt w (some ⟨g, 0, none⟩) s (fun _ => 0)) (hr : BytesAt w (some ⟨q, 0, none⟩) k R) (hL : w.rowIs L 26 k A) (hP : PcsTo w L n s x k A)
    (k2 : k ≤ 32) (s2 : s ≤ 64) (h1 : B ≤ g) (h2 : B ≤ w.heap.size) :
    Calls Try.prog 37 #[.slice (some ⟨g, 0, none⟩) s s, .slice (some ⟨q, 0, none⟩) k k, .slice (some ⟨L, 0, none⟩) k k, .func (.func 38) #[.pointer (some ⟨p, 0, none⟩)] #[]] w fun e w' =>
      MixAns w B s (mixTo R (piece x n s) k) e w' := by
  go_enter Try.func37, Try.ntmps37
  go_wp2_with fail
  go_loopw [0, 13] (fun v i wr => ∃ (j b : Nat), j ≤ k ∧ i = .int .i64 j ∧ v = .slice (some ⟨b, 0, none⟩) s s ∧ B ≤ b ∧ BytesAt wr (some ⟨b, 0, none⟩) s (mixTo R (piece x n s) j) ∧ Below w.heap.size w wr) (fun _ i _ => k - (intOf i).toNat)
  case atStart => exact ⟨0, g, Nat.zero_le _, rfl, rfl, h1, hs, Below.refl _ _⟩
  case round =>
    obtain ⟨j, b, hj, rfl, rfl, hb, BY, BE⟩ := hrel
    have HY : Hid (BytesAt wr (some ⟨b, 0, none⟩) s (mixTo R (piece x n s) j)) := BY
    have HB : Hid (Below w.heap.size w wr) := BE
    clear BY BE hs
    by_cases hjk : j < k
    · have i1 : (j : Int) < (k : Int) := by omega
      have c1 := bytes_cell (hr.below HB.out (Nat.le_refl _)) j hjk
      rw [Nat.zero_add] at c1
      obtain ⟨b', e1, -, B1⟩ := hP j hjk
      have c2 : wr.cell? ⟨L, j, none⟩ = some (.slice (some ⟨b', 0, none⟩) s s) := by
        rw [← e1, ← hL.cell hjk]
        exact HB.out.cell (p := ⟨L, j, none⟩) hL.lt
      have B2 := B1.below HB.out (Nat.le_refl _)
      have F2 := h.below HB.out h.lt
      have l1 := hr.lt j hjk
      have HX : Hid (mixTo R (piece x n s) (j + 1) = addUp (mixTo R (piece x n s) j) (piece x n s j) (R j)) := (rfl : _ = _)
      clear h hr hL hP e1 B1
      go_wp2_with fail
      refine (axpy_bytes p s s s s (R j) _ _ _ _ _ F2 HY.out B2 (by omega) (by omega) l1 s (by omega)).mono ?_
      rintro e w1 ⟨rfl, B3, b3, -⟩
      have HB3 : Hid (Below w.heap.size w w1) := HB.out.trans (b3.mono HB.out.size)
      have HY3 : Hid (BytesAt w1 (some ⟨wr.heap.size, 0, none⟩) s (mixTo R (piece x n s) (j + 1))) := B3
      have z1 : B ≤ wr.heap.size := Nat.le_trans h2 HB.out.size
      clear B2 F2 B3 b3 HX HY HB c1 c2
      go_wp2
      go_roundw
      case rel => exact ⟨j + 1, wr.heap.size, by omega, by go_num, rfl, z1, HY3.out, HB3.out⟩
      case measure => simp [intOf]; omega
    · obtain rfl : j = k := by omega
      clear hjk hj h hr hL hP
      go_wp2
      go_ret
      exact ⟨b, rfl, hb, HY.out, HB.out⟩

/-- A symbol was answered. -/
def SymAns (w : World) (s : Nat) (y : Nat → Nat) (e : Ending) (w' : World) : Prop :=
  ∃ b, e = .returned (.tuple #[.slice (some ⟨b, 0, none⟩) s s, .bool true]) ∧ w.heap.size ≤ b ∧ BytesAt w' (some ⟨b, 0, none⟩) s y ∧ Below w.heap.size w w'
/-- No was answered. -/
def SymNo (w : World) (e : Ending) (w' : World) : Prop := e = .returned (.tuple #[.slice none 0 0, .bool false]) ∧ Below w.heap.size w w'

theorem symbol_nil (f b s id : Value) (w : World) :
    Calls Try.prog 30 #[.pointer none, f, b, s, id] w fun e w' => SymNo w e w' := by
  go_enter Try.func30, Try.ntmps30
  go_wp2_with fail
  refine (freckons_nil _).mono ?_
  rintro e w' ⟨rfl, rfl⟩
  go_wp2
  go_ret2
  exact ⟨rfl, Below.refl _ _⟩

set_option maxRecDepth 100000 in
theorem symbol_cut (p : Nat) (f id s : Int) (a : Option Addr) (n c : Nat) (w : World) (h : FieldAt w p) (hno : ¬ (1 ≤ s ∧ s ≤ 64 ∧ 1 ≤ (n : Int) ∧ (n : Int) ≤ 32 * s)) :
    Calls Try.prog 30 #[.pointer (some ⟨p, 0, none⟩), .int .u32 f, .slice a n c, .int .i64 s, .int .i64 id] w fun e w' => SymNo w e w' := by
  go_enter Try.func30, Try.ntmps30
  go_wp2_with fail
  refine (freckons_yes p _ h).mono ?_
  rintro e w1 ⟨rfl, q1⟩
  go_wp2_with fail
  refine (face_split_no a n c s _ hno).mono ?_
  rintro e w2 ⟨rfl, b2⟩
  have HB : Hid (Below w.heap.size w w2) := (q1.below _).trans (b2.mono (by rw [q1.size]; exact Nat.le_refl _))
  clear q1 b2
  go_wp2
  go_ret2
  exact ⟨rfl, HB.out⟩

set_option maxRecDepth 100000 in
theorem symbol_dice (p : Nat) (f id : Int) (a : Option Addr) (n c s k : Nat) (x : Nat → Nat) (w : World) (h : FieldAt w p) (hx : BytesAt w a n x) (hc : n ≤ c) (s1 : 1 ≤ s) (s2 : s ≤ 64) (n1 : 1 ≤ n) (n2 : n ≤ 32 * s) (hk : k = cntOf n s) (hno : ¬ (0 ≤ id ∧ id < (k : Int) + 64)) :
    Calls Try.prog 30 #[.pointer (some ⟨p, 0, none⟩), .int .u32 f, .slice a n c, .int .i64 (s : Int), .int .i64 id] w fun e w' => SymNo w e w' := by
  have HK : Hid (k = cntOf n s) := hk
  clear hk
  go_enter Try.func30, Try.ntmps30
  go_wp2_with fail
  refine (freckons_yes p _ h).mono ?_
  rintro e w1 ⟨rfl, q1⟩
  go_wp2_with fail
  refine (face_split_yes a n c s k x _ (q1.bytes hx) hc s1 s2 n1 n2 HK.out).mono ?_
  rintro e w2 ⟨L, A, rfl, -, -, -, b2⟩
  have HB : Hid (Below w.heap.size w w2) := (q1.below _).trans (b2.mono (by rw [q1.size]; exact Nat.le_refl _))
  clear q1 b2 hx h
  go_wp2_with fail
  refine (drow_no f id k _ (by omega)).mono ?_
  rintro e w3 ⟨rfl, rfl⟩
  go_wp2
  go_ret2
  exact ⟨rfl, HB.out⟩

set_option maxRecDepth 100000 in
set_option maxHeartbeats 400000 in
theorem symbol_yes (p f id : Nat) (a : Option Addr) (n c s k : Nat) (x : Nat → Nat) (w : World) (h : FieldAt w p) (hx : BytesAt w a n x) (hc : n ≤ c) (hf : f < 4294967296) (s1 : 1 ≤ s) (s2 : s ≤ 64) (n1 : 1 ≤ n) (n2 : n ≤ 32 * s) (hk : k = cntOf n s) (hi : id < k + 64) :
    Calls Try.prog 30 #[.pointer (some ⟨p, 0, none⟩), .int .u32 (f : Int), .slice a n c, .int .i64 (s : Int), .int .i64 (id : Int)] w fun e w' => SymAns w s (symOf f x n s id) e w' := by
  have HK : Hid (k = cntOf n s) := hk
  have k1 : 1 ≤ k := by
    rw [hk]
    unfold cntOf
    exact (Nat.le_div_iff_mul_le (by omega)).2 (by omega)
  have k2 : k ≤ 32 := hk ▸ cnt_le n s s1 n2
  have hmf : ∀ (fn : Fn) (first cap : Array Value) (w : World), (Instr.makeFunc fn first cap).run Try.prog w = .ok (.func fn first cap) w := fun _ _ _ _ => rfl
  have hmk := run_make_row' (P := Try.prog) 26 5 (.int .u8 0) 1 Try.underlying26 Try.infoByte rfl .i64 .i64 s (by omega) (by omega)
  clear hk
  go_enter Try.func30, Try.ntmps30
  go_wp2_with fail
  refine (freckons_yes p _ h).mono ?_
  rintro e w1 ⟨rfl, q1⟩
  have F1 := q1.field h
  go_wp2_with fail
  refine (face_split_yes a n c s k x _ (q1.bytes hx) hc s1 s2 n1 n2 HK.out).mono ?_
  rintro e w2 ⟨L, A, rfl, -, R2, P2, b2⟩
  have B2 : Below w.heap.size w w2 := (q1.below _).trans (b2.mono (by rw [q1.size]; exact Nat.le_refl _))
  have F2 := F1.below b2 F1.lt
  clear q1 b2 hx h F1
  go_wp2_with fail
  refine (drow_yes f id k _ hf k1 k2 hi).mono ?_
  rintro e w3 ⟨q, rfl, -, Q3, b3⟩
  have B3 : Below w.heap.size w w3 := B2.trans (b3.mono B2.size)
  have F3 := F2.below b3 F2.lt
  have P3 := P2.grew b3
  have R3 := R2.of_block (b3.block L R2.lt)
  clear b3 B2 F2 P2 R2
  have HB3 : Hid (Below w.heap.size w w3) := B3
  have z3 := B3.size
  have b4 : Below w3.heap.size w3 (w3.alloc (.cells (madeCells #[.int .u8 0] s) 5)) := (Below.refl _ _).alloc (Nat.le_refl _) _
  have Y4 : BytesAt (w3.alloc (.cells (madeCells #[.int .u8 0] s) 5)) (some ⟨w3.heap.size, 0, none⟩) s (fun _ => 0) :=
    ⟨fun _ => ⟨_, 0, rfl, fun i hi => by rw [Nat.zero_add]; exact (World.rowIs_made w3 (.int .u8 0) s 5).cell hi⟩, fun _ _ => by decide⟩
  have z4 : (w3.alloc (.cells (madeCells #[.int .u8 0] s) 5)).heap.size = w3.heap.size + 1 := by simp
  have F4 := F3.below b4 F3.lt
  have P4 := P3.grew b4
  have R4 := R3.of_block (b4.block L R3.lt)
  have Q4 := Q3.grew b4
  clear F3 P3 R3 Q3 B3
  go_wp2_with fail
  generalize (w3.alloc (.cells (madeCells #[.int .u8 0] s) 5)) = w4 at *
  refine (fmixed_any p w3.heap.size q L n s k w.heap.size x _ A _ F4 Y4 Q4 R4 P4 k2 s2 z3 (by omega)).mono ?_
  rintro e w5 ⟨b, rfl, z5, Y5, b5⟩
  have HB5 : Hid (Below w.heap.size w w5) := HB3.out.trans ((b4.mono z3).trans (b5.mono (by omega)))
  have HY5 : Hid (BytesAt w5 (some ⟨b, 0, none⟩) s (symOf f x n s id)) := by
    show BytesAt _ _ _ _
    unfold symOf
    rw [← HK.out]
    exact Y5
  clear F4 P4 R4 Q4 Y4 b4 b5 Y5 hmk hmf HB3
  go_wp2
  go_ret2
  exact ⟨b, rfl, z5, HY5.out, HB5.out⟩
theorem symbol_is (p f id : Nat) (z : Int) (a : Option Addr) (n c s k : Nat) (x : Nat → Nat) (w : World) (hz : z = (id : Int)) (h : FieldAt w p) (hx : BytesAt w a n x) (hc : n ≤ c) (hf : f < 4294967296) (s1 : 1 ≤ s) (s2 : s ≤ 64) (n1 : 1 ≤ n) (n2 : n ≤ 32 * s) (hk : k = cntOf n s) (hi : id < k + 64) :
    Calls Try.prog 30 #[.pointer (some ⟨p, 0, none⟩), .int .u32 (f : Int), .slice a n c, .int .i64 (s : Int), .int .i64 z] w fun e w' => SymAns w s (symOf f x n s id) e w' := by
  subst hz
  exact symbol_yes p f id a n c s k x w h hx hc hf s1 s2 n1 n2 hk hi
end Go.Proofs.Ythlidbenhlidjaa

/-
  The sum's register: what a move makes of it, what bytes do, that it is a sum over bits and that nothing is lost. Plain mathematics: nothing here speaks of a program.
-/
namespace Go.Proofs.Ythlidbenhlidjaa.Crc

def P : Nat := 79764919
def ones : Nat := 4294967295
/-- The register, moved up by one. -/
def mv (r : Nat) : Nat := if r < 2147483648 then 2 * r else (2 * r - 4294967296) ^^^ P
/-- .. n times. -/
def mvs : Nat → Nat → Nat
  | 0, r => r
  | n + 1, r => mv (mvs n r)
/-- What a byte makes of the register. -/
def st (r x : Nat) : Nat := mvs 8 (r ^^^ (x * 16777216))
/-- The register that was r, behind n bytes of x. -/
def reg (r : Nat) (x : Nat → Nat) : Nat → Nat
  | 0 => r
  | n + 1 => st (reg r x n) (x n)
/-- The sum of n bytes. -/
def sum (x : Nat → Nat) (n : Nat) : Nat := reg ones x n

theorem xor_lt {a b : Nat} (ha : a < 4294967296) (hb : b < 4294967296) : a ^^^ b < 4294967296 := Nat.xor_lt_two_pow (n := 32) ha hb
theorem P_lt : P < 4294967296 := by decide
theorem mv_lt {r : Nat} (h : r < 4294967296) : mv r < 4294967296 := by
  unfold mv
  split
  · omega
  · exact xor_lt (by omega) P_lt
theorem mvs_lt {r : Nat} (n : Nat) (h : r < 4294967296) : mvs n r < 4294967296 := by
  induction n with
  | zero => exact h
  | succ n ih => exact mv_lt ih
theorem st_lt {r x : Nat} (h : r < 4294967296) (hx : x < 256) : st r x < 4294967296 := mvs_lt 8 (xor_lt h (by omega))
theorem reg_lt {r : Nat} {x : Nat → Nat} (n : Nat) (h : r < 4294967296) (hx : ∀ i, i < n → x i < 256) : reg r x n < 4294967296 := by
  induction n with
  | zero => exact h
  | succ n ih => exact st_lt (ih fun i hi => hx i (by omega)) (hx n (by omega))
theorem ones_lt : ones < 4294967296 := by decide
theorem sum_lt {x : Nat → Nat} (n : Nat) (hx : ∀ i, i < n → x i < 256) : sum x n < 4294967296 := reg_lt n ones_lt hx

theorem xor4 (a b c d : Nat) : (a ^^^ b) ^^^ (c ^^^ d) = (a ^^^ c) ^^^ (b ^^^ d) := by
  rw [Nat.xor_assoc, Nat.xor_assoc, ← Nat.xor_assoc b c d, Nat.xor_comm b c, Nat.xor_assoc c b d]
theorem mv_eq {r : Nat} (h : r < 4294967296) : mv r = (2 * r % 4294967296) ^^^ (r / 2147483648 * P) := by
  unfold mv
  split
  · rw [show r / 2147483648 = 0 by omega, Nat.mod_eq_of_lt (by omega)]; simp
  · rw [show r / 2147483648 = 1 by omega, show 2 * r % 4294967296 = 2 * r - 4294967296 by omega, Nat.one_mul]
theorem dbl_xor (a b : Nat) : 2 * (a ^^^ b) % 4294967296 = (2 * a % 4294967296) ^^^ (2 * b % 4294967296) := by
  have h1 : 2 * (a ^^^ b) = (2 * a) ^^^ (2 * b) := by
    have := Nat.shiftLeft_xor_distrib (a := a) (b := b) (i := 1)
    simpa [Nat.shiftLeft_eq, Nat.mul_comm] using this
  rw [h1]
  have := Nat.xor_mod_two_pow (a := 2 * a) (b := 2 * b) (n := 32)
  simpa using this
theorem top_xor (a b : Nat) : (a ^^^ b) / 2147483648 = (a / 2147483648) ^^^ (b / 2147483648) := by
  have := Nat.xor_div_two_pow (a := a) (b := b) (n := 31); simpa using this
theorem mv_xor {a b : Nat} (ha : a < 4294967296) (hb : b < 4294967296) : mv (a ^^^ b) = mv a ^^^ mv b := by
  rw [mv_eq (xor_lt ha hb), mv_eq ha, mv_eq hb, dbl_xor, top_xor, xor4 (2 * a % 4294967296) _ (2 * b % 4294967296) _]
  have h1 : a / 2147483648 = 0 ∨ a / 2147483648 = 1 := by omega
  have h2 : b / 2147483648 = 0 ∨ b / 2147483648 = 1 := by omega
  rcases h1 with h1 | h1 <;> rcases h2 with h2 | h2 <;> rw [h1, h2] <;> congr 1
theorem mvs_xor {a b : Nat} (n : Nat) (ha : a < 4294967296) (hb : b < 4294967296) : mvs n (a ^^^ b) = mvs n a ^^^ mvs n b := by
  induction n with
  | zero => rfl
  | succ n ih =>
    show mv (mvs n (a ^^^ b)) = mv (mvs n a) ^^^ mv (mvs n b)
    rw [ih, mv_xor (mvs_lt n ha) (mvs_lt n hb)]
theorem up_xor (a b : Nat) : (a ^^^ b) * 16777216 = (a * 16777216) ^^^ (b * 16777216) := by
  have := Nat.shiftLeft_xor_distrib (a := a) (b := b) (i := 24)
  simpa [Nat.shiftLeft_eq] using this
theorem st_xor {a b x y : Nat} (ha : a < 4294967296) (hb : b < 4294967296) (hx : x < 256) (hy : y < 256) : st (a ^^^ b) (x ^^^ y) = st a x ^^^ st b y := by
  unfold st
  rw [up_xor, xor4, mvs_xor 8 (xor_lt ha (by omega)) (xor_lt hb (by omega))]
theorem reg_xor {a b : Nat} {x y : Nat → Nat} (n : Nat) (ha : a < 4294967296) (hb : b < 4294967296) (hx : ∀ i, i < n → x i < 256) (hy : ∀ i, i < n → y i < 256) : reg (a ^^^ b) (fun i => x i ^^^ y i) n = reg a x n ^^^ reg b y n := by
  induction n with
  | zero => rfl
  | succ n ih =>
    show st (reg (a ^^^ b) (fun i => x i ^^^ y i) n) (x n ^^^ y n) = st (reg a x n) (x n) ^^^ st (reg b y n) (y n)
    rw [ih (fun i hi => hx i (by omega)) (fun i hi => hy i (by omega)), st_xor (reg_lt n ha fun i hi => hx i (by omega)) (reg_lt n hb fun i hi => hy i (by omega)) (hx n (by omega)) (hy n (by omega))]
theorem reg_congr {r : Nat} {x y : Nat → Nat} (n : Nat) (h : ∀ i, i < n → x i = y i) : reg r x n = reg r y n := by
  induction n with
  | zero => rfl
  | succ n ih =>
    show st (reg r x n) (x n) = st (reg r y n) (y n)
    rw [ih fun i hi => h i (by omega), h n (by omega)]
theorem sum_congr {x y : Nat → Nat} (n : Nat) (h : ∀ i, i < n → x i = y i) : sum x n = sum y n := reg_congr n h
/-- Of texts of one length, the sum of what is unlike in them is what is unlike in their sums, noughts' sum aside. -/
theorem sum_xor {x y : Nat → Nat} (n : Nat) (hx : ∀ i, i < n → x i < 256) (hy : ∀ i, i < n → y i < 256) : sum x n ^^^ sum y n = sum (fun i => x i ^^^ y i) n ^^^ sum (fun _ => 0) n := by
  unfold sum
  rw [← reg_xor n ones_lt ones_lt hx hy, ← reg_xor n ones_lt ones_lt (fun i hi => Nat.xor_lt_two_pow (n := 8) (hx i hi) (hy i hi)) (fun _ _ => by decide)]
  exact reg_congr n fun i _ => (Nat.xor_zero _).symm

/-! ### nothing is lost -/
theorem P_odd (a : Nat) : ((2 * a) ^^^ P) % 2 = 1 := by
  have := Nat.xor_mod_two_pow (a := 2 * a) (b := P) (n := 1)
  simp only [Nat.pow_one] at this
  rw [this, show 2 * a % 2 = 0 by omega]
  decide
theorem mv_inj {a b : Nat} (ha : a < 4294967296) (hb : b < 4294967296) (h : mv a = mv b) : a = b := by
  have od : ∀ r, 2147483648 ≤ r → (2 * r - 4294967296) = 2 * (r - 2147483648) := fun r _ => by omega
  unfold mv at h
  split at h <;> split at h
  · omega
  · rename_i h1 h2
    have := P_odd (b - 2147483648)
    rw [← od b (by omega), ← h] at this
    omega
  · rename_i h1 h2
    have := P_odd (a - 2147483648)
    rw [← od a (by omega), h] at this
    omega
  · have h3 : ((2 * a - 4294967296) ^^^ P) ^^^ P = ((2 * b - 4294967296) ^^^ P) ^^^ P := by rw [h]
    rw [Nat.xor_assoc, Nat.xor_assoc, Nat.xor_self, Nat.xor_zero, Nat.xor_zero] at h3
    omega
theorem mvs_inj {a b : Nat} (n : Nat) (ha : a < 4294967296) (hb : b < 4294967296) (h : mvs n a = mvs n b) : a = b := by
  induction n with
  | zero => exact h
  | succ n ih => exact ih (mv_inj (mvs_lt n ha) (mvs_lt n hb) h)
theorem xor_left {a b c : Nat} (h : a ^^^ c = b ^^^ c) : a = b := by
  have h3 : (a ^^^ c) ^^^ c = (b ^^^ c) ^^^ c := by rw [h]
  rwa [Nat.xor_assoc, Nat.xor_assoc, Nat.xor_self, Nat.xor_zero, Nat.xor_zero] at h3
theorem xor_right {a b c : Nat} (h : c ^^^ a = c ^^^ b) : a = b := by rw [Nat.xor_comm c a, Nat.xor_comm c b] at h; exact xor_left h
theorem st_inj {a b x : Nat} (ha : a < 4294967296) (hb : b < 4294967296) (hx : x < 256) (h : st a x = st b x) : a = b :=
  xor_left (mvs_inj 8 (xor_lt ha (by omega)) (xor_lt hb (by omega)) h)
theorem st_inj_byte {r x y : Nat} (hr : r < 4294967296) (hx : x < 256) (hy : y < 256) (h : st r x = st r y) : x = y := by
  have := xor_right (mvs_inj 8 (xor_lt hr (by omega)) (xor_lt hr (by omega)) h)
  omega
/-- One byte that is another is told. -/
theorem reg_turned {r : Nat} {x y : Nat → Nat} (n j : Nat) (hj : j < n) (hr : r < 4294967296) (hx : ∀ i, i < n → x i < 256) (hy : ∀ i, i < n → y i < 256) (e : ∀ i, i < n → i ≠ j → x i = y i) (hne : x j ≠ y j) : reg r x n ≠ reg r y n := by
  induction n with
  | zero => omega
  | succ n ih =>
    intro h
    have h : st (reg r x n) (x n) = st (reg r y n) (y n) := h
    have lx := reg_lt (x := x) n hr fun i hi => hx i (by omega)
    have ly := reg_lt (x := y) n hr fun i hi => hy i (by omega)
    by_cases hjn : j = n
    · subst hjn
      rw [reg_congr (x := x) (y := y) j fun i hi => e i (by omega) (by omega)] at h
      exact hne (st_inj_byte ly (hx j (by omega)) (hy j (by omega)) h)
    · rw [e n (by omega) (fun h => hjn h.symm)] at h
      exact ih (by omega) (fun i hi => hx i (by omega)) (fun i hi => hy i (by omega)) (fun i hi => e i (by omega)) (st_inj lx ly (hy n (by omega)) h)
theorem sum_turned {x y : Nat → Nat} (n j : Nat) (hj : j < n) (hx : ∀ i, i < n → x i < 256) (hy : ∀ i, i < n → y i < 256) (e : ∀ i, i < n → i ≠ j → x i = y i) (hne : x j ≠ y j) : sum x n ≠ sum y n :=
  reg_turned n j hj ones_lt hx hy e hne

/-! ### a table's look -/
/-- What stands in the table at i. -/
def tab (i : Nat) : Nat := mvs 8 (i * 16777216)
theorem tab_lt (i : Nat) (h : i < 256) : tab i < 4294967296 := mvs_lt 8 (by omega)
theorem mv_low {r : Nat} (h : r < 2147483648) : mv r = 2 * r := if_pos h
theorem mvs_low {r : Nat} (h : r < 16777216) : mvs 8 r = 256 * r := by
  show mv (mv (mv (mv (mv (mv (mv (mv r))))))) = _
  rw [mv_low (r := r) (by omega), mv_low (r := 2 * r) (by omega), mv_low (r := 2 * (2 * r)) (by omega), mv_low (r := 2 * (2 * (2 * r))) (by omega), mv_low (r := 2 * (2 * (2 * (2 * r)))) (by omega),
    mv_low (r := 2 * (2 * (2 * (2 * (2 * r))))) (by omega), mv_low (r := 2 * (2 * (2 * (2 * (2 * (2 * r)))))) (by omega), mv_low (r := 2 * (2 * (2 * (2 * (2 * (2 * (2 * r))))))) (by omega)]
  omega
/-- The register by its highest byte and the rest. -/
theorem parted (r : Nat) : r = (r / 16777216 * 16777216) ^^^ (r % 16777216) := by
  have h := Nat.two_pow_add_eq_or_of_lt (i := 24) (b := r % 16777216) (by omega) (r / 16777216)
  have h2 : (2 ^ 24 * (r / 16777216)) ^^^ (r % 16777216) = 2 ^ 24 * (r / 16777216) + r % 16777216 := by
    rw [h]
    apply Nat.eq_of_testBit_eq
    intro i
    rw [Nat.testBit_xor, Nat.testBit_or, Nat.testBit_two_pow_mul]
    by_cases g : i < 24
    · simp [show ¬ 24 ≤ i by omega]
    · have : (r % 16777216).testBit i = false := Nat.testBit_lt_two_pow (Nat.lt_of_lt_of_le (Nat.mod_lt _ (by decide)) (Nat.pow_le_pow_right (n := 2) (by decide) (show 24 ≤ i by omega)))
      simp [this]
  rw [Nat.mul_comm (r / 16777216), show (16777216 : Nat) = 2 ^ 24 from rfl] at *
  rw [h2]
  exact (Nat.div_add_mod r (2 ^ 24)).symm
/-- One look into the table is eight moves. -/
theorem st_tab {r x : Nat} (h : r < 4294967296) (hx : x < 256) : st r x = (r * 256 % 4294967296) ^^^ tab (r / 16777216 ^^^ x) := by
  have hq : r / 16777216 ^^^ x < 256 := Nat.xor_lt_two_pow (n := 8) (by omega) hx
  have e : r ^^^ (x * 16777216) = ((r / 16777216 ^^^ x) * 16777216) ^^^ (r % 16777216) := by
    conv => lhs; rw [parted r]
    rw [up_xor, Nat.xor_assoc, Nat.xor_assoc, Nat.xor_comm (r % 16777216)]
  unfold st tab
  rw [e, mvs_xor 8 (by omega) (by omega), mvs_low (r := r % 16777216) (by omega), Nat.xor_comm, show 256 * (r % 16777216) = r * 256 % 4294967296 by omega]

theorem sum_succ (x : Nat → Nat) (n : Nat) : sum x (n + 1) = st (sum x n) (x n) := rfl
theorem sum_zero (x : Nat → Nat) : sum x 0 = 4294967295 := rfl
theorem sum_tab {x : Nat → Nat} {n : Nat} (hx : ∀ i, i < n + 1 → x i < 256) : sum x (n + 1) = (sum x n * 256 % 4294967296) ^^^ tab (sum x n / 16777216 ^^^ x n) := by
  rw [sum_succ, st_tab (sum_lt n fun i hi => hx i (by omega)) (hx n (by omega))]

/-! ### a sum in four bytes -/
/-- The i-th byte of r, the highest first. -/
def byt (r i : Nat) : Nat := if i = 0 then r / 16777216 % 256 else if i = 1 then r / 65536 % 256 else if i = 2 then r / 256 % 256 else r % 256
theorem byt_lt (r i : Nat) : byt r i < 256 := by unfold byt; repeat' split
                                                 all_goals omega
/-- The number that four bytes are. -/
def num (x : Nat → Nat) : Nat := ((x 0 * 256 + x 1) * 256 + x 2) * 256 + x 3
theorem num_byt {r : Nat} (h : r < 4294967296) : num (byt r) = r := by unfold num byt; simp; omega
theorem num_inj {x y : Nat → Nat} (hx : ∀ i, i < 4 → x i < 256) (hy : ∀ i, i < 4 → y i < 256) (h : num x = num y) : ∀ i, i < 4 → x i = y i := by
  have a0 := hx 0 (by decide); have a1 := hx 1 (by decide); have a2 := hx 2 (by decide); have a3 := hx 3 (by decide)
  have b0 := hy 0 (by decide); have b1 := hy 1 (by decide); have b2 := hy 2 (by decide); have b3 := hy 3 (by decide)
  unfold num at h
  intro i hi
  match i, hi with
  | 0, _ => omega
  | 1, _ => omega
  | 2, _ => omega
  | 3, _ => omega
theorem num_congr {x y : Nat → Nat} (h : ∀ i, i < 4 → x i = y i) : num x = num y := by
  unfold num; rw [h 0 (by decide), h 1 (by decide), h 2 (by decide), h 3 (by decide)]
/-- The number that n bytes are, the highest first. -/
def numTo (x : Nat → Nat) : Nat → Nat
  | 0 => 0
  | n + 1 => numTo x n * 256 + x n
theorem numTo_four (x : Nat → Nat) : numTo x 4 = num x := by
  show (((0 * 256 + x 0) * 256 + x 1) * 256 + x 2) * 256 + x 3 = _
  unfold num
  omega
theorem numTo_lt {x : Nat → Nat} (n : Nat) (hx : ∀ i, i < n → x i < 256) : numTo x n < 256 ^ n := by
  induction n with
  | zero => exact Nat.one_pos
  | succ n ih =>
    have h := ih fun i hi => hx i (by omega)
    have := hx n (by omega)
    rw [Nat.pow_succ]
    show numTo x n * 256 + x n < _
    omega
/-- n bytes, sealed. -/
def seald (x : Nat → Nat) (n i : Nat) : Nat := if i < n then x i else byt (sum x n) (i - n)
theorem seal_lt {x : Nat → Nat} {n : Nat} (hx : ∀ i, i < n → x i < 256) (i : Nat) : seald x n i < 256 := by
  unfold seald; split
  · exact hx i (by assumption)
  · exact byt_lt _ _
/-- n bytes and four behind them: sealed? -/
def ok (y : Nat → Nat) (n : Nat) : Prop := num (fun i => y (n + i)) = sum y n
instance (y : Nat → Nat) (n : Nat) : Decidable (ok y n) := by unfold ok; infer_instance
theorem ok_seal {x : Nat → Nat} {n : Nat} (hx : ∀ i, i < n → x i < 256) : ok (seald x n) n := by
  unfold ok
  rw [sum_congr (x := seald x n) (y := x) n (fun i hi => if_pos hi), num_congr (y := byt (sum x n)) fun i hi => by unfold seald; rw [if_neg (by omega), Nat.add_sub_cancel_left], num_byt (sum_lt n hx)]
theorem ok_congr {x y : Nat → Nat} {n : Nat} (h : ∀ i, i < n + 4 → x i = y i) : ok x n ↔ ok y n := by
  unfold ok
  rw [sum_congr (y := y) n fun i hi => h i (by omega), num_congr (y := fun i => y (n + i)) fun i hi => h (n + i) (by omega)]
/-- One byte of sealed ones that is another is told. -/
theorem ok_turned {x y : Nat → Nat} {n j : Nat} (hj : j < n + 4) (hx : ∀ i, i < n + 4 → x i < 256) (hy : ∀ i, i < n + 4 → y i < 256) (e : ∀ i, i < n + 4 → i ≠ j → x i = y i) (hne : x j ≠ y j) (hok : ok x n) : ¬ ok y n := by
  intro h
  unfold ok at hok h
  by_cases hjn : j < n
  · refine sum_turned n j hjn (fun i hi => hx i (by omega)) (fun i hi => hy i (by omega)) (fun i hi => e i (by omega)) hne ?_
    rw [← hok, ← h]
    exact num_congr fun i hi => e (n + i) (by omega) (by omega)
  · have hs : sum x n = sum y n := sum_congr n fun i hi => e i (by omega) (by omega)
    have := num_inj (fun i hi => hx (n + i) (by omega)) (fun i hi => hy (n + i) (by omega)) (hok.trans (hs.trans h.symm)) (j - n) (by omega)
    rw [show n + (j - n) = j by omega] at this
    exact hne this
end Go.Proofs.Ythlidbenhlidjaa.Crc

/-
  Numbers in bytes, the highest first; the document's High and Num.
-/
namespace Go.Proofs.Ythlidbenhlidjaa
open Go.RowKit Go.Deep

/-- The i-th byte of v in n bytes, the highest first. -/
def high (v n i : Nat) : Nat := v / 256 ^ (n - 1 - i) % 256
theorem high_lt (v n i : Nat) : high v n i < 256 := Nat.mod_lt _ (by decide)
theorem numTo_high_to (v n : Nat) (hv : v < 256 ^ n) : ∀ k, k ≤ n → Crc.numTo (high v n) k = v / 256 ^ (n - k)
  | 0, _ => by
    rw [Nat.sub_zero, Nat.div_eq_of_lt hv]; rfl
  | k + 1, hk => by
    show Crc.numTo (high v n) k * 256 + high v n k = _
    rw [numTo_high_to v n hv k (by omega)]
    unfold high
    rw [show n - 1 - k = n - (k + 1) by omega, show n - k = n - (k + 1) + 1 by omega, Nat.pow_succ, ← Nat.div_div_eq_div_mul]
    omega
/-- A number in n bytes is that number. -/
theorem numTo_high (v n : Nat) (hv : v < 256 ^ n) : Crc.numTo (high v n) n = v := by
  rw [numTo_high_to v n hv n (Nat.le_refl _), Nat.sub_self, Nat.pow_zero, Nat.div_one]
theorem numTo_div {x : Nat → Nat} (k : Nat) : ∀ d, (∀ i, i < k + d → x i < 256) → Crc.numTo x (k + d) / 256 ^ d = Crc.numTo x k
  | 0, _ => by rw [Nat.pow_zero, Nat.div_one]; rfl
  | d + 1, hx => by
    have e : Crc.numTo x (k + (d + 1)) = Crc.numTo x (k + d) * 256 + x (k + d) := rfl
    have l := hx (k + d) (by omega)
    rw [e, Nat.pow_succ, Nat.mul_comm (256 ^ d), ← Nat.div_div_eq_div_mul, show (Crc.numTo x (k + d) * 256 + x (k + d)) / 256 = Crc.numTo x (k + d) by omega]
    exact numTo_div k d fun i hi => hx i (by omega)
/-- The bytes of the number that n bytes are. -/
theorem high_numTo {x : Nat → Nat} {n i : Nat} (hx : ∀ i, i < n → x i < 256) (hi : i < n) : high (Crc.numTo x n) n i = x i := by
  unfold high
  have h := numTo_div (x := x) (i + 1) (n - 1 - i) (fun j hj => hx j (by omega))
  rw [show i + 1 + (n - 1 - i) = n by omega] at h
  rw [h]
  show (Crc.numTo x i * 256 + x i) % 256 = x i
  have := hx i hi
  omega
theorem numTo_congr {x y : Nat → Nat} : ∀ n, (∀ i, i < n → x i = y i) → Crc.numTo x n = Crc.numTo y n
  | 0, _ => rfl
  | n + 1, h => by
    show Crc.numTo x n * 256 + x n = Crc.numTo y n * 256 + y n
    rw [numTo_congr n fun i hi => h i (by omega), h n (by omega)]
theorem high_set {w : World} {B t n v k : Nat} (hk : k < n) (h : w.rowIs B t n (byteAt fun i => if k < i then high v n i else 0)) : (w.setCell ⟨B, k, none⟩ (.int .u8 ((v / 256 ^ (n - (k + 1)) % 256 : Nat) : Int))).rowIs B t n (byteAt fun i => if k ≤ i then high v n i else 0) := by
  refine (h.set k _).congr fun i _ => ?_
  unfold byteAt
  dsimp only
  by_cases e : i = k
  · subst e; rw [if_pos rfl, if_pos (Nat.le_refl _)]; unfold high; rw [show n - 1 - i = n - (i + 1) by omega]
  · rw [if_neg e]
    by_cases g : k < i
    · rw [if_pos g, if_pos (by omega)]
    · rw [if_neg g, if_neg (by omega)]

end Go.Proofs.Ythlidbenhlidjaa

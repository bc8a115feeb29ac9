/-
  Package dice: its generator, and the rows that it makes.
-/
import Derived.Test.YthlidbenhlidjaaMem
import Derived.Test.YthlidbenhlidjaaBit
namespace Go.Proofs.Ythlidbenhlidjaa
open Go.RowKit Go.Deep

namespace Dice
def t1 (x : Nat) : Nat := x ^^^ (x * 8192 % 4294967296)
def t2 (x : Nat) : Nat := x ^^^ (x / 131072)
def t3 (x : Nat) : Nat := x ^^^ (x * 32 % 4294967296)
/-- x, turned once. -/
def turn (x : Nat) : Nat := t3 (t2 (t1 x))
/-- The byte of x. -/
def byt (x : Nat) : Nat := x / 2048 % 256
/-- x, turned n times. -/
def nth (x : Nat) : Nat → Nat
  | 0 => x
  | n + 1 => turn (nth x n)
/-- The bytes one behind the other, with no look at whether all are 0. -/
def raw (x i : Nat) : Nat := byt (nth x (i + 1))
/-- The bytes of a row that starts with x. -/
def row (x k i : Nat) : Nat := if (∀ j, j < k → raw x j = 0) ∧ i = 0 then 1 else raw x i
/-- 1, if x is 0. -/
def pos (x : Nat) : Nat := if x = 0 then 1 else x
theorem pos_ne (x : Nat) (h : x ≠ 0) : pos x = x := if_neg h
/-- What a frame's symbol starts with. -/
def start (f s : Nat) : Nat := pos ((f * 2654435761 + s * 40503 + 1) % 4294967296)
/-- The row of a frame's symbol. -/
def rowOf (f s k i : Nat) : Nat := if s < k then (if i = s then 1 else 0) else row (start f s) k i

theorem xor_lt (a b : Nat) (ha : a < 4294967296) (hb : b < 4294967296) : a ^^^ b < 4294967296 := Nat.xor_lt_two_pow (n := 32) ha hb
theorem t1_lt (x : Nat) (h : x < 4294967296) : t1 x < 4294967296 := xor_lt _ _ h (Nat.mod_lt _ (by decide))
theorem t2_lt (x : Nat) (h : x < 4294967296) : t2 x < 4294967296 := xor_lt _ _ h (by omega)
theorem t3_lt (x : Nat) (h : x < 4294967296) : t3 x < 4294967296 := xor_lt _ _ h (Nat.mod_lt _ (by decide))
theorem turn_lt (x : Nat) (h : x < 4294967296) : turn x < 4294967296 := t3_lt _ (t2_lt _ (t1_lt _ h))
theorem nth_lt (x n : Nat) (h : x < 4294967296) : nth x n < 4294967296 := by
  induction n with
  | zero => exact h
  | succ n ih => exact turn_lt _ ih
theorem byt_lt (x : Nat) : byt x < 256 := Nat.mod_lt _ (by decide)
theorem raw_lt (x i : Nat) : raw x i < 256 := byt_lt _
theorem row_lt (x k i : Nat) : row x k i < 256 := by
  unfold row
  split
  · decide
  · exact raw_lt _ _
theorem rowOf_lt (f s k i : Nat) : rowOf f s k i < 256 := by
  unfold rowOf
  split
  · split <;> decide
  · exact row_lt _ _ _
theorem start_lt (f s : Nat) : start f s < 4294967296 := by
  have h : (f * 2654435761 + s * 40503 + 1) % 4294967296 < 4294967296 := Nat.mod_lt _ (by decide)
  unfold start
  generalize (f * 2654435761 + s * 40503 + 1) % 4294967296 = x at *
  unfold pos
  split
  · decide
  · exact h
end Dice

/-- The block g holds a generator at x. -/
structure GenAt (w : World) (g x : Nat) : Prop where
  cell : w.cell? ⟨g, 0, none⟩ = some (.int .u32 (x : Int))
  thaw : w.frozen? ⟨g, 0, none⟩ = false
theorem GenAt.set {w : World} {g x : Nat} (h : GenAt w g x) (y : Nat) : GenAt ((w.setCell ⟨g, 0, none⟩ (.int .u32 (y : Int))).drew) g y ∧ Kept g w ((w.setCell ⟨g, 0, none⟩ (.int .u32 (y : Int))).drew) ∧ ((w.setCell ⟨g, 0, none⟩ (.int .u32 (y : Int))).drew).heap.size = w.heap.size := by
  refine ⟨⟨?_, ?_⟩, (Kept.set w 0 _).trans (Kept.of_same ⟨1, rfl⟩), by simp [World.setCell]⟩
  · show (w.setCell ⟨g, 0, none⟩ (.int .u32 (y : Int))).cell? ⟨g, 0, none⟩ = _
    rw [World.cell?_setCell_same _ _ _ h.cell]
  · have := h.thaw
    simpa using this
theorem GenAt.same {w w' : World} {g x : Nat} (h : GenAt w g x) (q : Same w w') : GenAt w' g x := by
  obtain ⟨n, rfl⟩ := q
  exact ⟨h.cell, h.thaw⟩
theorem GenAt.kept {w w' : World} {g x R : Nat} (h : GenAt w g x) (q : Kept R w w') (hR : g ≠ R) : GenAt w' g x :=
  ⟨q.cell h.cell hR, (World.frozen?_of_block (a := ⟨g, 0, none⟩) (q.block g (cell_lt h.cell) hR)).trans h.thaw⟩

set_option maxRecDepth 100000 in
set_option maxHeartbeats 400000 in
theorem step_any (g x : Nat) (w : World) (h : GenAt w g x) (hx : x < 4294967296) :
    Calls Try.prog 47 #[.pointer (some ⟨g, 0, none⟩)] w fun e w' => e = .returned (.int .u8 (Dice.byt (Dice.turn x) : Int)) ∧ GenAt w' g (Dice.turn x) ∧ Kept g w w' ∧ w'.heap.size = w.heap.size := by
  have l1 := Dice.t1_lt x hx
  have l2 := Dice.t2_lt _ l1
  have e1 : bits .xor .u32 (x : Int) ((x : Int) * 8192 % 4294967296) = (Dice.t1 x : Int) := u32_xor x (x * 8192 % 4294967296) hx (Nat.mod_lt _ (by decide))
  have e2 : bits .xor .u32 (Dice.t1 x : Int) ((Dice.t1 x : Int) / 131072) = (Dice.t2 (Dice.t1 x) : Int) := u32_xor _ (Dice.t1 x / 131072) l1 (by omega)
  have e3 : bits .xor .u32 (Dice.t2 (Dice.t1 x) : Int) ((Dice.t2 (Dice.t1 x) : Int) * 32 % 4294967296) = (Dice.turn x : Int) := u32_xor _ (Dice.t2 (Dice.t1 x) * 32 % 4294967296) l2 (Nat.mod_lt _ (by decide))
  have HB : Hid ((Dice.turn x : Int) / 2048 % 256 = (Dice.byt (Dice.turn x) : Int)) := by show (_ : Int) = _; unfold Dice.byt; omega
  obtain ⟨G1, K1, s1⟩ := h.set (Dice.t1 x)
  have hc := h.cell
  have hf := h.thaw
  go_enter Try.func47, Try.ntmps47
  go_wp2_with fail
  go_region
  generalize (w.setCell ⟨g, 0, none⟩ (.int .u32 (Dice.t1 x : Int))).drew = w1 at *
  obtain ⟨G2, K2, s2⟩ := G1.set (Dice.t2 (Dice.t1 x))
  have hc := G1.cell
  have hf := G1.thaw
  go_wp2_with fail
  go_region
  generalize (w1.setCell ⟨g, 0, none⟩ (.int .u32 (Dice.t2 (Dice.t1 x) : Int))).drew = w2 at *
  obtain ⟨G3, K3, s3⟩ := G2.set (Dice.turn x)
  have hc := G2.cell
  have hf := G2.thaw
  go_wp2_with fail
  go_region
  generalize (w2.setCell ⟨g, 0, none⟩ (.int .u32 (Dice.turn x : Int))).drew = w3 at *
  have hc := G3.cell
  go_wp2
  go_ret
  exact ⟨ret_int HB.out, G3, (K1.trans K2).trans K3, by omega⟩

theorem cast_sum (f s a b m : Nat) : (((f * a + s * b + 1) % m : Nat) : Int) = ((f : Int) * (a : Int) + (s : Int) * (b : Int) + 1) % (m : Int) := by
  rw [Int.natCast_emod, Int.natCast_add, Int.natCast_add, Int.natCast_mul, Int.natCast_mul]
  rfl
theorem cast_pos {n : Nat} {i : Int} (e : (n : Int) = i) (h : (i == 0) = true) : Dice.pos n = 1 := by
  have h := eq_of_beq h
  obtain rfl : n = 0 := by omega
  rfl
theorem cast_ne {n : Nat} {i : Int} (e : (n : Int) = i) (h : (i == 0) = false) : (Dice.pos n : Int) = i := by
  have h := ne_of_beq_false h
  rw [Dice.pos_ne n (by omega)]
  exact e
theorem start_yes (f s : Nat) (h : (((f : Int) * 2654435761 + (s : Int) * 40503 + 1) % 4294967296 == 0) = true) : Dice.start f s = 1 := cast_pos (cast_sum f s 2654435761 40503 4294967296) h
theorem start_no (f s : Nat) (h : (((f : Int) * 2654435761 + (s : Int) * 40503 + 1) % 4294967296 == 0) = false) : (Dice.start f s : Int) = ((f : Int) * 2654435761 + (s : Int) * 40503 + 1) % 4294967296 := cast_ne (cast_sum f s 2654435761 40503 4294967296) h

set_option maxRecDepth 100000 in
set_option maxHeartbeats 400000 in
theorem gen_any (f s : Nat) (w : World) (_hf : f < 4294967296) (hs : s < 4294967296) :
    Calls Try.prog 46 #[.int .u32 (f : Int), .int .i64 (s : Int)] w fun e w' => e = .returned (.pointer (some ⟨w.heap.size, 0, none⟩)) ∧ w' = w.alloc (.cells #[.int .u32 (Dice.start f s : Int)] 105) := by
  go_enter Try.func46, Try.ntmps46
  go_wp2
  · rename_i h
    go_ret
    exact ⟨rfl, by rw [start_yes f s h]; rfl⟩
  · rename_i h
    go_ret
    exact ⟨rfl, by rw [start_no f s h]⟩

/-- A row of k bytes, all 0 but the one at s. -/
def unitA (s i : Nat) : Value := .int .u8 ((if i = s then 1 else 0 : Nat) : Int)
/-- A row whose first j bytes are there. -/
def rawA (x j i : Nat) : Value := .int .u8 ((if i < j then Dice.raw x i else 0 : Nat) : Int)
theorem unitA_set {w : World} {B t K s : Nat} (h : w.rowIs B t K (fun _ => .int .u8 0)) : (w.setCell ⟨B, s, none⟩ (.int .u8 1)).rowIs B t K (unitA s) := by
  refine (h.set s _).congr fun i _ => ?_
  unfold unitA
  by_cases e : i = s
  · subst e; simp
  · simp [e]
theorem rawA_set {w : World} {B t K x j : Nat} (h : w.rowIs B t K (rawA x j)) : (w.setCell ⟨B, j, none⟩ (.int .u8 (Dice.raw x j : Int))).rowIs B t K (rawA x (j + 1)) := by
  refine (h.set j _).congr fun i _ => ?_
  unfold rawA
  by_cases e : i = j
  · subst e; simp
  · by_cases g : i < j
    · simp [e, g, show i < j + 1 by omega]
    · simp [e, g, show ¬ i < j + 1 by omega]
theorem row_bytes {w : World} {B t K : Nat} {A : Nat → Value} {x : Nat → Nat} (h : w.rowIs B t K A) (hx : ∀ i, i < K → x i < 256 ∧ A i = .int .u8 (x i : Int)) : BytesAt w (some ⟨B, 0, none⟩) K x :=
  ⟨fun _ => ⟨B, 0, rfl, fun i hi => by rw [Nat.zero_add, h.cell hi, (hx i hi).2]⟩, fun i hi => (hx i hi).1⟩
theorem raw_bytes {w : World} {B t K x : Nat} (h : w.rowIs B t K (rawA x K)) (hn : ¬ ∀ j, j < K → Dice.raw x j = 0) : BytesAt w (some ⟨B, 0, none⟩) K (Dice.row x K) :=
  row_bytes h fun i hi => ⟨Dice.row_lt _ _ _, by unfold rawA Dice.row; rw [if_pos hi, if_neg fun g => hn g.1]⟩
theorem raw_bytes0 {w : World} {B t K x : Nat} (h : w.rowIs B t K (rawA x K)) (hn : ∀ j, j < K → Dice.raw x j = 0) : BytesAt (w.setCell ⟨B, 0, none⟩ (.int .u8 1)) (some ⟨B, 0, none⟩) K (Dice.row x K) :=
  row_bytes (h.set 0 _) fun i hi => ⟨Dice.row_lt _ _ _, by
    unfold rawA Dice.row
    by_cases e : i = 0
    · rw [if_pos e, if_pos ⟨hn, e⟩]; rfl
    · rw [if_neg e, if_pos hi, if_neg fun g => e g.2]⟩

set_option maxRecDepth 100000 in
set_option maxHeartbeats 400000 in
theorem unit_any (s k : Nat) (w : World) (hs : s < k) (hk : k ≤ 32) :
    Calls Try.prog 44 #[.int .i64 (s : Int), .int .i64 (k : Int)] w fun e w' => e = .returned (.slice (some ⟨w.heap.size, 0, none⟩) k k) ∧ BytesAt w' (some ⟨w.heap.size, 0, none⟩) k (fun i => if i = s then 1 else 0) ∧ Below w.heap.size w w' := by
  have hmk := run_make_row' (P := Try.prog) 26 5 (.int .u8 0) 1 Try.underlying26 Try.infoByte rfl .i64 .i64 k (by omega) (by omega)
  have i1 : (s : Int) < (k : Int) := by omega
  have g3 : (madeCells #[.int .u8 0] k)[s]? = some (.int .u8 0) := by
    rw [← World.cell?_alloc_at (w := w) _ 5 w.heap.size s rfl]
    exact (World.rowIs_made w (.int .u8 0) k 5).cell hs
  have HR : Hid ((w.alloc (.cells ((madeCells #[.int .u8 0] k).setIfInBounds s (.int .u8 1)) 5)).rowIs w.heap.size 5 k (unitA s)) := by
    show World.rowIs _ _ _ _ _
    rw [← World.setCell_alloc_at (w := w) _ _ w.heap.size s _ rfl]
    exact unitA_set (World.rowIs_made w (.int .u8 0) k 5)
  go_enter Try.func44, Try.ntmps44
  go_wp2
  go_ret
  exact ⟨rfl, row_bytes HR.out fun i _ => ⟨by split <;> decide, rfl⟩, (Below.refl _ _).alloc (Nat.le_refl _) _⟩

theorem or_zero (a b : Nat) : a ||| b = 0 ↔ a = 0 ∧ b = 0 := by
  have h1 : a ≤ a ||| b := Nat.left_le_or
  have h2 : b ≤ a ||| b := Nat.right_le_or
  refine ⟨fun h => by omega, ?_⟩
  rintro ⟨rfl, rfl⟩
  rfl
theorem all_succ (x j s : Nat) (h : s = 0 ↔ ∀ t, t < j → Dice.raw x t = 0) : (s ||| Dice.raw x j) = 0 ↔ ∀ t, t < j + 1 → Dice.raw x t = 0 := by
  rw [or_zero, h]
  refine ⟨fun g t ht => ?_, fun g => ⟨fun t ht => g t (by omega), g j (by omega)⟩⟩
  by_cases e : t = j
  · subst e; exact g.2
  · exact g.1 t (by omega)

/-- A store into a block that was not there. -/
theorem Kept.trans_set {R : Nat} {w w' : World} (h : Kept R w w') (_ : w'.heap.size = w.heap.size + 1) {i : Nat} {v : Value} : Kept R w (w'.setCell ⟨w.heap.size, i, none⟩ v) :=
  ⟨h.os, h.tape, h.output, by have := h.size; simpa [World.setCell] using this, fun k hk hR => (Below.heap_setCell w' ⟨w.heap.size, i, none⟩ v k (by show k ≠ w.heap.size; omega)).trans (h.block k hk hR)⟩

set_option maxRecDepth 100000 in
set_option maxHeartbeats 400000 in
theorem mixed_any (k g x : Nat) (w : World) (h : GenAt w g x) (hx : x < 4294967296) (k1 : 1 ≤ k) (k2 : k ≤ 32) :
    Calls Try.prog 45 #[.int .i64 (k : Int), .func (.func 47) #[.pointer (some ⟨g, 0, none⟩)] #[]] w fun e w' => e = .returned (.slice (some ⟨w.heap.size, 0, none⟩) k k) ∧ BytesAt w' (some ⟨w.heap.size, 0, none⟩) k (Dice.row x k) ∧ Kept g w w' := by
  have hmk := run_make_row' (P := Try.prog) 26 5 (.int .u8 0) 1 Try.underlying26 Try.infoByte rfl .i64 .i64 k (by omega) (by omega)
  have hg : g < w.heap.size := cell_lt h.cell
  have hr : (w.alloc (.cells (madeCells #[.int .u8 0] k) 5)).rowIs w.heap.size 5 k (rawA x 0) := (World.rowIs_made w (.int .u8 0) k 5).congr fun i _ => by unfold rawA; simp
  have b3 : Below w.heap.size w (w.alloc (.cells (madeCells #[.int .u8 0] k) 5)) := (Below.refl _ _).alloc (Nat.le_refl _) _
  have K3 : Kept g w (w.alloc (.cells (madeCells #[.int .u8 0] k) 5)) := Kept.of_below b3
  have G3 : GenAt (w.alloc (.cells (madeCells #[.int .u8 0] k) 5)) g x := h.kept (Kept.of_below (R := w.heap.size) b3) (by omega)
  have s3 : (w.alloc (.cells (madeCells #[.int .u8 0] k) 5)).heap.size = w.heap.size + 1 := by simp
  go_enter Try.func45, Try.ntmps45
  go_wp2_with fail
  clear hmk
  generalize w.alloc (.cells (madeCells #[.int .u8 0] k) 5) = w1 at *
  go_loopw [6, 12] (fun so i wr => ∃ j s : Nat, j ≤ k ∧ i = .int .i64 j ∧ so = .int .u8 s ∧ s < 256 ∧ (s = 0 ↔ ∀ t, t < j → Dice.raw x t = 0) ∧ wr.rowIs w.heap.size 5 k (rawA x j) ∧ GenAt wr g (Dice.nth x j) ∧ Kept g w wr ∧ wr.heap.size = w.heap.size + 1) (fun _ i _ => k - (intOf i).toNat)
  case atStart => exact ⟨0, 0, Nat.zero_le _, rfl, rfl, by decide, by simp, hr, G3, K3, s3⟩
  case round =>
    clear hr b3 K3 G3 s3
    obtain ⟨j, s, hj, rfl, rfl, hs, hz, hrow, G, K, hsz⟩ := hrel
    by_cases hjk : j < k
    · have i1 : (j : Int) < (k : Int) := by omega
      have lr := Dice.raw_lt x j
      have HZ : Hid (s = 0 ↔ ∀ t, t < j → Dice.raw x t = 0) := hz
      have HR : Hid (wr.rowIs w.heap.size 5 k (rawA x j)) := hrow
      have HK : Hid (Kept g w wr) := K
      have HO : bits .or .u8 (s : Int) (Dice.raw x j : Int) = ((s ||| Dice.raw x j : Nat) : Int) := u8_or s (Dice.raw x j) hs lr
      have HL : s ||| Dice.raw x j < 256 := Nat.or_lt_two_pow (n := 8) hs lr
      clear hz hrow K
      go_wp2_with fail
      refine (step_any g _ _ G (Dice.nth_lt x j hx)).mono ?_
      rintro e w2 ⟨rfl, G2, K2, s2⟩
      have R2 : w2.rowIs w.heap.size 5 k (rawA x j) := HR.out.of_block (K2.block _ HR.out.lt (by omega))
      have HK2 : Hid (Kept g w w2) := HK.out.trans K2
      obtain ⟨v3, c3⟩ : ∃ v, w2.cell? ⟨w.heap.size, j, none⟩ = some v := ⟨_, R2.cell hjk⟩
      have f3 := R2.frozen j
      have HR2 : Hid (w2.rowIs w.heap.size 5 k (rawA x j)) := R2
      have HG2 : Hid (GenAt w2 g (Dice.nth x (j + 1))) := G2
      have hs2 : w2.heap.size = w.heap.size + 1 := by omega
      have HO2 : bits .or .u8 (s : Int) (Dice.byt (Dice.turn (Dice.nth x j)) : Int) = ((s ||| Dice.raw x j : Nat) : Int) := HO
      clear G G2 HO HR HK K2 R2 s2
      go_wp2
      go_roundw
      case rel => exact ⟨j + 1, s ||| Dice.raw x j, by omega, by go_num, rfl, HL, all_succ x j s HZ.out, rawA_set HR2.out, HG2.out.kept (Kept.set (R := w.heap.size) _ j _) (by omega), HK2.out.trans_set hs2, by simpa [World.setCell] using hs2⟩
      case measure => simp [intOf]; omega
    · have hje : j = k := by omega
      subst hje
      have HR : Hid (wr.rowIs w.heap.size 5 j (rawA x j)) := hrow
      have HK : Hid (Kept g w wr) := K
      have c3 := hrow.cell (i := 0) (by omega)
      have f3 := hrow.frozen 0
      clear hrow K
      by_cases hs0 : s = 0
      · subst hs0
        have HZ : Hid (∀ t, t < j → Dice.raw x t = 0) := hz.1 rfl
        clear hz hjk hj
        go_wp2
        go_ret
        exact ⟨rfl, raw_bytes0 HR.out HZ.out, HK.out.trans_set hsz⟩
      · have HZ : Hid (¬ ∀ t, t < j → Dice.raw x t = 0) := fun g => hs0 (hz.2 g)
        have i1 : ((s : Int) == 0) = false := by simp; omega
        clear hz hjk hj
        go_wp2
        go_ret
        exact ⟨rfl, raw_bytes HR.out HZ.out, HK.out⟩
end Go.Proofs.Ythlidbenhlidjaa

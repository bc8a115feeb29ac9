/-
  Some frames that may be, and why others may not: the call returns true.
-/
import Derived.Test.YtheedopfchkebaaRows
import Derived.WalkKit
import Derived.ProofKit
import Derived.OpenShut
import Derived.ShutString
import Derived.Test.YtheedopfchkebaaFbn
import Derived.Test.YtheedopfchkebaaFsm
import Derived.Deep.RegionHeld
import Derived.ChangeOld
import Derived.Below
namespace Go.Proofs.Ytheedopfchkebaa.frameForms
open Go.ChangeShapes Go.WideShapes Go.ChangeAt Go.RowKit
open Go.ChangeMaps (open_string shut_string)
set_option linter.unusedVariables false      -- a walk need not use every 'w<i>' (that an integer argument fits its kind)

theorem own : ownKnob Try.prog.godebug = none := by kernel_rfl

open Go.Deep

def kn (G : Nat) (i : Nat) : Fr := if i = 0 then ⟨3, 1, none, 0, 0, 1, 2, 10⟩ else ⟨5, 2, some ⟨G, 0, none⟩, 1, 1, 1, 4, 12⟩
def okF (G : Nat) : Fr := ⟨6, 3, some ⟨G + 1 + 1, 0, none⟩, 2, 2, 8, 4, 12⟩
def r53 (i : Nat) : Int := if i = 0 then 5 else 3
/-- What is known, what may be. -/
structure Fm (w : World) (G : Nat) : Prop where
  kn : FrsAt w (some ⟨G + 1, 0, none⟩) 2 (kn G)
  r0 : NumsAt .u32 w (some ⟨G + 1 + 1, 0, none⟩) 2 r53
  ok : FrAt w (G + 1 + 1 + 1) (okF G)
theorem nums_block {κ : IntKind} {w w' : World} {b o n : Nat} {x : Nat → Int} (h : NumsAt κ w (some ⟨b, o, none⟩) n x) (hb : w'.heap[b]? = w.heap[b]?) : NumsAt κ w' (some ⟨b, o, none⟩) n x := fun h0 => by
  obtain ⟨b', o', e, hc⟩ := h h0
  cases e
  exact ⟨b, o, rfl, fun i hi => (World.cell?_of_block (a := ⟨b, o + i, none⟩) hb).trans (hc i hi)⟩
theorem nums_lt {κ : IntKind} {w : World} {b o n : Nat} {x : Nat → Int} (h : NumsAt κ w (some ⟨b, o, none⟩) n x) (h0 : 0 < n) : b < w.heap.size := cell_lt (nums_cell h 0 h0)
theorem frs_lt {w : World} {b o n : Nat} {K : Nat → Fr} (h : FrsAt w (some ⟨b, o, none⟩) n K) (h0 : 0 < n) : b < w.heap.size := cell_lt (h.at 0 h0).1
theorem nums_lit (κ : IntKind) (w : World) (cs : Array Value) (T : TypeId) (n : Nat) (x : Nat → Int) (h : ∀ i, i < n → cs[i]? = some (.int κ (x i))) : NumsAt κ (w.alloc (.cells cs T)) (some ⟨w.heap.size, 0, none⟩) n x :=
  fun _ => ⟨_, 0, rfl, fun i hi => by rw [Nat.zero_add, World.cell?_alloc_at _ _ _ _ rfl]; exact h i hi⟩
theorem nums_kept {κ : IntKind} {R : Nat} {w w' : World} {b o n : Nat} {x : Nat → Int} (h : NumsAt κ w (some ⟨b, o, none⟩) n x) (hk : Kept R w w') (hR : b ≠ R) : NumsAt κ w' (some ⟨b, o, none⟩) n x := fun h0 =>
  nums_block h (hk.block b (nums_lt h h0) hR) h0
theorem Fm.kept {w w' : World} {G R : Nat} (h : Fm w G) (hk : Kept R w w') (hR : G + 1 + 1 + 1 < R := by omega) : Fm w' G :=
  ⟨h.kn.block (fun b o e hl => by cases e; exact hk.block _ hl (by omega)), nums_kept h.r0 hk (by omega), h.ok.block (hk.block _ h.ok.lt (by omega))⟩
theorem Fm.grew {w w' : World} {G : Nat} (h : Fm w G) (hb : Below w.heap.size w w') : Fm w' G := ⟨h.kn.grew hb, h.r0.grew hb, h.ok.grew hb⟩
theorem made5 (w : World) : Fm (((((w.alloc (.cells #[.int .u32 3] 22)).alloc (.cells #[.int .u32 3, .int .i64 1, .slice none 0 0, .int .i64 1, .int .i64 2, .int .i64 10, .int .u32 5, .int .i64 2, .slice (some ⟨w.heap.size, 0, none⟩) 1 1, .int .i64 1, .int .i64 4, .int .i64 12] 25)).alloc (.cells #[.int .u32 5, .int .u32 3] 22)).alloc (.cells #[.int .u32 6, .int .i64 3, .slice (some ⟨w.heap.size + 1 + 1, 0, none⟩) 2 2, .int .i64 8, .int .i64 4, .int .i64 12] 25)).alloc (.cells (madeCells #[.int .u32 0, .int .i64 0, .slice none 0 0, .int .i64 0, .int .i64 0, .int .i64 0] 96) 25)) w.heap.size ∧ FsAt (((((w.alloc (.cells #[.int .u32 3] 22)).alloc (.cells #[.int .u32 3, .int .i64 1, .slice none 0 0, .int .i64 1, .int .i64 2, .int .i64 10, .int .u32 5, .int .i64 2, .slice (some ⟨w.heap.size, 0, none⟩) 1 1, .int .i64 1, .int .i64 4, .int .i64 12] 25)).alloc (.cells #[.int .u32 5, .int .u32 3] 22)).alloc (.cells #[.int .u32 6, .int .i64 3, .slice (some ⟨w.heap.size + 1 + 1, 0, none⟩) 2 2, .int .i64 8, .int .i64 4, .int .i64 12] 25)).alloc (.cells (madeCells #[.int .u32 0, .int .i64 0, .slice none 0 0, .int .i64 0, .int .i64 0, .int .i64 0] 96) 25)) (w.heap.size + 1 + 1 + 1 + 1) 16 (fun _ => Fr.zero) ∧ Below w.heap.size w (((((w.alloc (.cells #[.int .u32 3] 22)).alloc (.cells #[.int .u32 3, .int .i64 1, .slice none 0 0, .int .i64 1, .int .i64 2, .int .i64 10, .int .u32 5, .int .i64 2, .slice (some ⟨w.heap.size, 0, none⟩) 1 1, .int .i64 1, .int .i64 4, .int .i64 12] 25)).alloc (.cells #[.int .u32 5, .int .u32 3] 22)).alloc (.cells #[.int .u32 6, .int .i64 3, .slice (some ⟨w.heap.size + 1 + 1, 0, none⟩) 2 2, .int .i64 8, .int .i64 4, .int .i64 12] 25)).alloc (.cells (madeCells #[.int .u32 0, .int .i64 0, .slice none 0 0, .int .i64 0, .int .i64 0, .int .i64 0] 96) 25)) ∧ (((((w.alloc (.cells #[.int .u32 3] 22)).alloc (.cells #[.int .u32 3, .int .i64 1, .slice none 0 0, .int .i64 1, .int .i64 2, .int .i64 10, .int .u32 5, .int .i64 2, .slice (some ⟨w.heap.size, 0, none⟩) 1 1, .int .i64 1, .int .i64 4, .int .i64 12] 25)).alloc (.cells #[.int .u32 5, .int .u32 3] 22)).alloc (.cells #[.int .u32 6, .int .i64 3, .slice (some ⟨w.heap.size + 1 + 1, 0, none⟩) 2 2, .int .i64 8, .int .i64 4, .int .i64 12] 25)).alloc (.cells (madeCells #[.int .u32 0, .int .i64 0, .slice none 0 0, .int .i64 0, .int .i64 0, .int .i64 0] 96) 25)).heap.size = w.heap.size + 1 + 1 + 1 + 1 + 1 := by
  have z1 : (w.alloc (.cells #[.int .u32 3] 22)).heap.size = w.heap.size + 1 := by simp
  have z2 : ((w.alloc (.cells #[.int .u32 3] 22)).alloc (.cells #[.int .u32 3, .int .i64 1, .slice none 0 0, .int .i64 1, .int .i64 2, .int .i64 10, .int .u32 5, .int .i64 2, .slice (some ⟨w.heap.size, 0, none⟩) 1 1, .int .i64 1, .int .i64 4, .int .i64 12] 25)).heap.size = w.heap.size + 1 + 1 := by simp
  have z3 : (((w.alloc (.cells #[.int .u32 3] 22)).alloc (.cells #[.int .u32 3, .int .i64 1, .slice none 0 0, .int .i64 1, .int .i64 2, .int .i64 10, .int .u32 5, .int .i64 2, .slice (some ⟨w.heap.size, 0, none⟩) 1 1, .int .i64 1, .int .i64 4, .int .i64 12] 25)).alloc (.cells #[.int .u32 5, .int .u32 3] 22)).heap.size = w.heap.size + 1 + 1 + 1 := by simp
  have z4 : ((((w.alloc (.cells #[.int .u32 3] 22)).alloc (.cells #[.int .u32 3, .int .i64 1, .slice none 0 0, .int .i64 1, .int .i64 2, .int .i64 10, .int .u32 5, .int .i64 2, .slice (some ⟨w.heap.size, 0, none⟩) 1 1, .int .i64 1, .int .i64 4, .int .i64 12] 25)).alloc (.cells #[.int .u32 5, .int .u32 3] 22)).alloc (.cells #[.int .u32 6, .int .i64 3, .slice (some ⟨w.heap.size + 1 + 1, 0, none⟩) 2 2, .int .i64 8, .int .i64 4, .int .i64 12] 25)).heap.size = w.heap.size + 1 + 1 + 1 + 1 := by simp
  have z5 : (((((w.alloc (.cells #[.int .u32 3] 22)).alloc (.cells #[.int .u32 3, .int .i64 1, .slice none 0 0, .int .i64 1, .int .i64 2, .int .i64 10, .int .u32 5, .int .i64 2, .slice (some ⟨w.heap.size, 0, none⟩) 1 1, .int .i64 1, .int .i64 4, .int .i64 12] 25)).alloc (.cells #[.int .u32 5, .int .u32 3] 22)).alloc (.cells #[.int .u32 6, .int .i64 3, .slice (some ⟨w.heap.size + 1 + 1, 0, none⟩) 2 2, .int .i64 8, .int .i64 4, .int .i64 12] 25)).alloc (.cells (madeCells #[.int .u32 0, .int .i64 0, .slice none 0 0, .int .i64 0, .int .i64 0, .int .i64 0] 96) 25)).heap.size = w.heap.size + 1 + 1 + 1 + 1 + 1 := by simp
  have b1 := box_below w (.cells #[.int .u32 3] 22)
  have b2 := box_below (w.alloc (.cells #[.int .u32 3] 22)) (.cells #[.int .u32 3, .int .i64 1, .slice none 0 0, .int .i64 1, .int .i64 2, .int .i64 10, .int .u32 5, .int .i64 2, .slice (some ⟨w.heap.size, 0, none⟩) 1 1, .int .i64 1, .int .i64 4, .int .i64 12] 25)
  have b3 := box_below ((w.alloc (.cells #[.int .u32 3] 22)).alloc (.cells #[.int .u32 3, .int .i64 1, .slice none 0 0, .int .i64 1, .int .i64 2, .int .i64 10, .int .u32 5, .int .i64 2, .slice (some ⟨w.heap.size, 0, none⟩) 1 1, .int .i64 1, .int .i64 4, .int .i64 12] 25)) (.cells #[.int .u32 5, .int .u32 3] 22)
  have b4 := box_below (((w.alloc (.cells #[.int .u32 3] 22)).alloc (.cells #[.int .u32 3, .int .i64 1, .slice none 0 0, .int .i64 1, .int .i64 2, .int .i64 10, .int .u32 5, .int .i64 2, .slice (some ⟨w.heap.size, 0, none⟩) 1 1, .int .i64 1, .int .i64 4, .int .i64 12] 25)).alloc (.cells #[.int .u32 5, .int .u32 3] 22)) (.cells #[.int .u32 6, .int .i64 3, .slice (some ⟨w.heap.size + 1 + 1, 0, none⟩) 2 2, .int .i64 8, .int .i64 4, .int .i64 12] 25)
  have b5 := box_below ((((w.alloc (.cells #[.int .u32 3] 22)).alloc (.cells #[.int .u32 3, .int .i64 1, .slice none 0 0, .int .i64 1, .int .i64 2, .int .i64 10, .int .u32 5, .int .i64 2, .slice (some ⟨w.heap.size, 0, none⟩) 1 1, .int .i64 1, .int .i64 4, .int .i64 12] 25)).alloc (.cells #[.int .u32 5, .int .u32 3] 22)).alloc (.cells #[.int .u32 6, .int .i64 3, .slice (some ⟨w.heap.size + 1 + 1, 0, none⟩) 2 2, .int .i64 8, .int .i64 4, .int .i64 12] 25)) (.cells (madeCells #[.int .u32 0, .int .i64 0, .slice none 0 0, .int .i64 0, .int .i64 0, .int .i64 0] 96) 25)
  have k2 : FrsAt ((w.alloc (.cells #[.int .u32 3] 22)).alloc (.cells #[.int .u32 3, .int .i64 1, .slice none 0 0, .int .i64 1, .int .i64 2, .int .i64 10, .int .u32 5, .int .i64 2, .slice (some ⟨w.heap.size, 0, none⟩) 1 1, .int .i64 1, .int .i64 4, .int .i64 12] 25)) (some ⟨w.heap.size + 1, 0, none⟩) 2 (kn w.heap.size) := fun _ => ⟨_, 0, rfl, fun i hi => by
    rw [← z1]
    have hi : i = 0 ∨ i = 1 := by omega
    rcases hi with rfl | rfl
    all_goals
      refine ⟨?_, ?_, ?_, ?_, ?_, ?_⟩
      all_goals
        rw [World.cell?_alloc_at _ _ _ _ rfl]; rfl⟩
  have r3 : NumsAt .u32 (((w.alloc (.cells #[.int .u32 3] 22)).alloc (.cells #[.int .u32 3, .int .i64 1, .slice none 0 0, .int .i64 1, .int .i64 2, .int .i64 10, .int .u32 5, .int .i64 2, .slice (some ⟨w.heap.size, 0, none⟩) 1 1, .int .i64 1, .int .i64 4, .int .i64 12] 25)).alloc (.cells #[.int .u32 5, .int .u32 3] 22)) (some ⟨w.heap.size + 1 + 1, 0, none⟩) 2 r53 := by
    rw [← z2]
    refine nums_lit .u32 ((w.alloc (.cells #[.int .u32 3] 22)).alloc (.cells #[.int .u32 3, .int .i64 1, .slice none 0 0, .int .i64 1, .int .i64 2, .int .i64 10, .int .u32 5, .int .i64 2, .slice (some ⟨w.heap.size, 0, none⟩) 1 1, .int .i64 1, .int .i64 4, .int .i64 12] 25)) _ _ 2 _ fun i hi => ?_
    have hi : i = 0 ∨ i = 1 := by omega
    rcases hi with rfl | rfl <;> rfl
  have f4 : FrAt ((((w.alloc (.cells #[.int .u32 3] 22)).alloc (.cells #[.int .u32 3, .int .i64 1, .slice none 0 0, .int .i64 1, .int .i64 2, .int .i64 10, .int .u32 5, .int .i64 2, .slice (some ⟨w.heap.size, 0, none⟩) 1 1, .int .i64 1, .int .i64 4, .int .i64 12] 25)).alloc (.cells #[.int .u32 5, .int .u32 3] 22)).alloc (.cells #[.int .u32 6, .int .i64 3, .slice (some ⟨w.heap.size + 1 + 1, 0, none⟩) 2 2, .int .i64 8, .int .i64 4, .int .i64 12] 25)) (w.heap.size + 1 + 1 + 1) (okF w.heap.size) := by
    rw [← z3]
    exact FrAt.made (((w.alloc (.cells #[.int .u32 3] 22)).alloc (.cells #[.int .u32 3, .int .i64 1, .slice none 0 0, .int .i64 1, .int .i64 2, .int .i64 10, .int .u32 5, .int .i64 2, .slice (some ⟨w.heap.size, 0, none⟩) 1 1, .int .i64 1, .int .i64 4, .int .i64 12] 25)).alloc (.cells #[.int .u32 5, .int .u32 3] 22)) _ (okF w.heap.size)
  have s5 : FsAt (((((w.alloc (.cells #[.int .u32 3] 22)).alloc (.cells #[.int .u32 3, .int .i64 1, .slice none 0 0, .int .i64 1, .int .i64 2, .int .i64 10, .int .u32 5, .int .i64 2, .slice (some ⟨w.heap.size, 0, none⟩) 1 1, .int .i64 1, .int .i64 4, .int .i64 12] 25)).alloc (.cells #[.int .u32 5, .int .u32 3] 22)).alloc (.cells #[.int .u32 6, .int .i64 3, .slice (some ⟨w.heap.size + 1 + 1, 0, none⟩) 2 2, .int .i64 8, .int .i64 4, .int .i64 12] 25)).alloc (.cells (madeCells #[.int .u32 0, .int .i64 0, .slice none 0 0, .int .i64 0, .int .i64 0, .int .i64 0] 96) 25)) (w.heap.size + 1 + 1 + 1 + 1) 16 (fun _ => Fr.zero) := by
    rw [← z4]
    exact FsAt.made ((((w.alloc (.cells #[.int .u32 3] 22)).alloc (.cells #[.int .u32 3, .int .i64 1, .slice none 0 0, .int .i64 1, .int .i64 2, .int .i64 10, .int .u32 5, .int .i64 2, .slice (some ⟨w.heap.size, 0, none⟩) 1 1, .int .i64 1, .int .i64 4, .int .i64 12] 25)).alloc (.cells #[.int .u32 5, .int .u32 3] 22)).alloc (.cells #[.int .u32 6, .int .i64 3, .slice (some ⟨w.heap.size + 1 + 1, 0, none⟩) 2 2, .int .i64 8, .int .i64 4, .int .i64 12] 25)) 16
  exact ⟨⟨((k2.grew b3).grew b4).grew b5, (r3.grew b4).grew b5, f4.grew b5⟩, s5, (((b1.trans (b2.mono (by omega))).trans (b3.mono (by omega))).trans (b4.mono (by omega))).trans (b5.mono (by omega)), z5⟩
def bad (G b12 b13 b14 b15 : Nat) : Nat → Fr
  | 0 => { okF G with k := 0 }
  | 1 => { okF G with k := 4 }
  | 2 => { okF G with p := -1 }
  | 3 => { okF G with d := 1099511627777 }
  | 4 => { okF G with p := 13 }
  | 5 => { okF G with s := 0 }
  | 6 => { okF G with s := 65 }
  | 7 => { okF G with id := 5 }
  | 8 => { okF G with p := 3 }
  | 9 => { okF G with p := 4, d := 11 }
  | 10 => { okF G with a := none, n := 0, c := 0 }
  | 11 => { okF G with k := 1 }
  | 12 => { okF G with a := some ⟨b12, 0, none⟩, n := 2, c := 2 }
  | 13 => { okF G with a := some ⟨b13, 0, none⟩, n := 1, c := 1 }
  | 14 => { okF G with a := some ⟨b14, 0, none⟩, n := 5, c := 5 }
  | _ => { okF G with a := some ⟨b15, 0, none⟩, n := 1, c := 1 }
def rfs : Nat → Nat → Int
  | 12, _ => 3
  | 13, _ => 6
  | 14, i => if i % 2 = 0 then 3 else 5
  | 15, _ => 4
  | _, i => r53 i
def want : Nat → Int
  | 0 => 1
  | 1 => 1
  | 2 => 1
  | 3 => 1
  | 4 => 1
  | 5 => 4
  | 6 => 4
  | 7 => 5
  | 8 => 5
  | 9 => 5
  | 10 => 6
  | 11 => 6
  | 12 => 6
  | 13 => 6
  | 14 => 6
  | _ => 6
theorem bad_want (G b12 b13 b14 b15 : Nat) : ∀ k, k < 16 → chk (bad G b12 b13 b14 b15 k) (rfs k) 2 (kn G) 11 2 = want k
  | 0, _ => by kernel_rfl
  | 1, _ => by kernel_rfl
  | 2, _ => by kernel_rfl
  | 3, _ => by kernel_rfl
  | 4, _ => by kernel_rfl
  | 5, _ => by kernel_rfl
  | 6, _ => by kernel_rfl
  | 7, _ => by kernel_rfl
  | 8, _ => by kernel_rfl
  | 9, _ => by kernel_rfl
  | 10, _ => by kernel_rfl
  | 11, _ => by kernel_rfl
  | 12, _ => by kernel_rfl
  | 13, _ => by kernel_rfl
  | 14, _ => by kernel_rfl
  | 15, _ => by kernel_rfl
  | k + 16, h => absurd h (by omega)
/-- The first t of them are as they will be. -/
def badTo (G b12 b13 b14 b15 t : Nat) (q : Nat) : Fr := if q < t then bad G b12 b13 b14 b15 q else okF G
def many (G : Nat) (q : Nat) : Fr := if q = 0 then kn G 0 else if q = 99 then kn G 1 else Fr.zero
theorem badTo_step (G b12 b13 b14 b15 t : Nat) (q : Nat) : (if q = t then bad G b12 b13 b14 b15 t else badTo G b12 b13 b14 b15 t q) = badTo G b12 b13 b14 b15 (t + 1) q := by
  unfold badTo
  by_cases e : q = t
  · subst e; rw [if_pos rfl, if_pos (by omega)]
  · rw [if_neg e]
    by_cases g : q < t
    · rw [if_pos g, if_pos (by omega)]
    · rw [if_neg g, if_neg (by omega)]
theorem fs_step {w : World} {B G b12 b13 b14 b15 t : Nat} (h : FsAt w B 16 (badTo G b12 b13 b14 b15 t)) (j n : Nat) (v : Value) (hj : j < 6) (hn : n = t * 6 + j) (hg : ∀ q, q < 6 → (bad G b12 b13 b14 b15 t).cell q = if q = j then v else (okF G).cell q) :
    FsAt (w.setCell ⟨B, n, none⟩ v) B 16 (badTo G b12 b13 b14 b15 (t + 1)) :=
  (h.put t j n v (bad G b12 b13 b14 b15 t) hj hn (fun q hq => by rw [hg q hq]; unfold badTo; rw [if_neg (Nat.lt_irrefl _)])).congr fun q _ => badTo_step _ _ _ _ _ _ _
theorem six_cases {p : Nat → Prop} (h0 : p 0) (h1 : p 1) (h2 : p 2) (h3 : p 3) (h4 : p 4) (h5 : p 5) : ∀ q, q < 6 → p q
  | 0, _ => h0
  | 1, _ => h1
  | 2, _ => h2
  | 3, _ => h3
  | 4, _ => h4
  | 5, _ => h5
  | q + 6, h => absurd h (by omega)
theorem filled (G b12 b13 b14 b15 : Nat) (q : Nat) : (fun q => if q < 16 then okF G else Fr.zero) q = if q < 16 then badTo G b12 b13 b14 b15 0 q else Fr.zero := by
  show (if q < 16 then okF G else Fr.zero) = _
  unfold badTo
  rw [if_neg (by omega : ¬ q < 0)]

set_option maxRecDepth 100000 in
set_option maxHeartbeats 4000000 in
theorem walk (w : World) :
    Calls Try.prog 6 #[] w fun e w' => e = .returned (.bool true) ∧ Below w.heap.size w w' := by
  have hmk : ∀ W : World, (Instr.makeSlice 26 (.int .i64 16) (.int .i64 16)).run Try.prog W = .ok (.slice (some ⟨W.heap.size, 0, none⟩) 16 16) (W.alloc (.cells (madeCells #[.int .u32 0, .int .i64 0, .slice none 0 0, .int .i64 0, .int .i64 0, .int .i64 0] 96) 25)) := fun W => make_frames 16 W (by decide)
  have hmk2 : ∀ W : World, (Instr.makeSlice 26 (.int .i64 100) (.int .i64 100)).run Try.prog W = .ok (.slice (some ⟨W.heap.size, 0, none⟩) 100 100) (W.alloc (.cells (madeCells #[.int .u32 0, .int .i64 0, .slice none 0 0, .int .i64 0, .int .i64 0, .int .i64 0] 600) 25)) := fun W => make_frames 100 W (by decide)
  go_enter Try.func6, Try.ntmps6
  go_wp2_with fail
  refine (begun12 _).mono ?_
  rintro e w1 ⟨rfl, b1⟩
  obtain ⟨m1, m2, m3, m4⟩ := made5 w1
  have HB : Hid (Below w.heap.size w (((((w1.alloc (.cells #[.int .u32 3] 22)).alloc (.cells #[.int .u32 3, .int .i64 1, .slice none 0 0, .int .i64 1, .int .i64 2, .int .i64 10, .int .u32 5, .int .i64 2, .slice (some ⟨w1.heap.size, 0, none⟩) 1 1, .int .i64 1, .int .i64 4, .int .i64 12] 25)).alloc (.cells #[.int .u32 5, .int .u32 3] 22)).alloc (.cells #[.int .u32 6, .int .i64 3, .slice (some ⟨w1.heap.size + 1 + 1, 0, none⟩) 2 2, .int .i64 8, .int .i64 4, .int .i64 12] 25)).alloc (.cells (madeCells #[.int .u32 0, .int .i64 0, .slice none 0 0, .int .i64 0, .int .i64 0, .int .i64 0] 96) 25))) := b1.trans (m3.mono b1.size)
  have HM : Hid (Fm (((((w1.alloc (.cells #[.int .u32 3] 22)).alloc (.cells #[.int .u32 3, .int .i64 1, .slice none 0 0, .int .i64 1, .int .i64 2, .int .i64 10, .int .u32 5, .int .i64 2, .slice (some ⟨w1.heap.size, 0, none⟩) 1 1, .int .i64 1, .int .i64 4, .int .i64 12] 25)).alloc (.cells #[.int .u32 5, .int .u32 3] 22)).alloc (.cells #[.int .u32 6, .int .i64 3, .slice (some ⟨w1.heap.size + 1 + 1, 0, none⟩) 2 2, .int .i64 8, .int .i64 4, .int .i64 12] 25)).alloc (.cells (madeCells #[.int .u32 0, .int .i64 0, .slice none 0 0, .int .i64 0, .int .i64 0, .int .i64 0] 96) 25)) w1.heap.size) := m1
  have HS : Hid (FsAt (((((w1.alloc (.cells #[.int .u32 3] 22)).alloc (.cells #[.int .u32 3, .int .i64 1, .slice none 0 0, .int .i64 1, .int .i64 2, .int .i64 10, .int .u32 5, .int .i64 2, .slice (some ⟨w1.heap.size, 0, none⟩) 1 1, .int .i64 1, .int .i64 4, .int .i64 12] 25)).alloc (.cells #[.int .u32 5, .int .u32 3] 22)).alloc (.cells #[.int .u32 6, .int .i64 3, .slice (some ⟨w1.heap.size + 1 + 1, 0, none⟩) 2 2, .int .i64 8, .int .i64 4, .int .i64 12] 25)).alloc (.cells (madeCells #[.int .u32 0, .int .i64 0, .slice none 0 0, .int .i64 0, .int .i64 0, .int .i64 0] 96) 25)) (w1.heap.size + 1 + 1 + 1 + 1) 16 (fun _ => Fr.zero)) := m2
  have HZ : Hid ((((((w1.alloc (.cells #[.int .u32 3] 22)).alloc (.cells #[.int .u32 3, .int .i64 1, .slice none 0 0, .int .i64 1, .int .i64 2, .int .i64 10, .int .u32 5, .int .i64 2, .slice (some ⟨w1.heap.size, 0, none⟩) 1 1, .int .i64 1, .int .i64 4, .int .i64 12] 25)).alloc (.cells #[.int .u32 5, .int .u32 3] 22)).alloc (.cells #[.int .u32 6, .int .i64 3, .slice (some ⟨w1.heap.size + 1 + 1, 0, none⟩) 2 2, .int .i64 8, .int .i64 4, .int .i64 12] 25)).alloc (.cells (madeCells #[.int .u32 0, .int .i64 0, .slice none 0 0, .int .i64 0, .int .i64 0, .int .i64 0] 96) 25)).heap.size = w1.heap.size + 1 + 1 + 1 + 1 + 1) := m4
  have HG : Hid (w.heap.size ≤ w1.heap.size) := b1.size
  clear b1 m1 m2 m3 m4
  go_wp2_with fail
  generalize (((((w1.alloc (.cells #[.int .u32 3] 22)).alloc (.cells #[.int .u32 3, .int .i64 1, .slice none 0 0, .int .i64 1, .int .i64 2, .int .i64 10, .int .u32 5, .int .i64 2, .slice (some ⟨w1.heap.size, 0, none⟩) 1 1, .int .i64 1, .int .i64 4, .int .i64 12] 25)).alloc (.cells #[.int .u32 5, .int .u32 3] 22)).alloc (.cells #[.int .u32 6, .int .i64 3, .slice (some ⟨w1.heap.size + 1 + 1, 0, none⟩) 2 2, .int .i64 8, .int .i64 4, .int .i64 12] 25)).alloc (.cells (madeCells #[.int .u32 0, .int .i64 0, .slice none 0 0, .int .i64 0, .int .i64 0, .int .i64 0] 96) 25)) = w5 at *
  generalize w1.heap.size = G at *
  go_loopw [4] (fun i wr => ∃ k : Nat, k ≤ 16 ∧ i = .int .i64 k ∧ Hid (Kept (G + 1 + 1 + 1 + 1) w5 wr) ∧ Hid (FsAt wr (G + 1 + 1 + 1 + 1) 16 (fun q => if q < k then okF G else Fr.zero))) (fun i _ => 16 - (intOf i).toNat)
  case atStart => exact ⟨0, Nat.zero_le _, rfl, Kept.refl _ _, HS⟩
  case round =>
    clear HS
    obtain ⟨k, hk, rfl, hkp, hfs⟩ := hrel
    by_cases hkn : k < 16
    · have i1 : (k : Int) < 16 := by omega
      obtain ⟨f0, f1, f2, f3, f4, f5, -⟩ := (HM.out.kept hkp.out).ok
      simp only [okF] at f0 f1 f2 f3 f4 f5
      have c0 := hfs.out.cell k 0 (k * 6) hkn (by decide) (by omega)
      have z0 := hfs.out.frz (k * 6)
      have c1 := hfs.out.cell k 1 (k * 6 + 1) hkn (by decide) (by omega)
      have z1 := hfs.out.frz (k * 6 + 1)
      have c2 := hfs.out.cell k 2 (k * 6 + 2) hkn (by decide) (by omega)
      have z2 := hfs.out.frz (k * 6 + 2)
      have c3 := hfs.out.cell k 3 (k * 6 + 3) hkn (by decide) (by omega)
      have z3 := hfs.out.frz (k * 6 + 3)
      have c4 := hfs.out.cell k 4 (k * 6 + 4) hkn (by decide) (by omega)
      have z4 := hfs.out.frz (k * 6 + 4)
      have c5 := hfs.out.cell k 5 (k * 6 + 5) hkn (by decide) (by omega)
      have z5 := hfs.out.frz (k * 6 + 5)
      have HK : Hid (Kept (G + 1 + 1 + 1 + 1) w5 ((((((wr.setCell ⟨G + 1 + 1 + 1 + 1, k * 6, none⟩ (.int .u32 6)).setCell ⟨G + 1 + 1 + 1 + 1, k * 6 + 1, none⟩ (.int .i64 3)).setCell ⟨G + 1 + 1 + 1 + 1, k * 6 + 2, none⟩ (.slice (some ⟨G + 1 + 1, 0, none⟩) 2 2)).setCell ⟨G + 1 + 1 + 1 + 1, k * 6 + 3, none⟩ (.int .i64 8)).setCell ⟨G + 1 + 1 + 1 + 1, k * 6 + 4, none⟩ (.int .i64 4)).setCell ⟨G + 1 + 1 + 1 + 1, k * 6 + 5, none⟩ (.int .i64 12))) := hkp.out.write (k * 6) (okF G)
      have HF : Hid (FsAt ((((((wr.setCell ⟨G + 1 + 1 + 1 + 1, k * 6, none⟩ (.int .u32 6)).setCell ⟨G + 1 + 1 + 1 + 1, k * 6 + 1, none⟩ (.int .i64 3)).setCell ⟨G + 1 + 1 + 1 + 1, k * 6 + 2, none⟩ (.slice (some ⟨G + 1 + 1, 0, none⟩) 2 2)).setCell ⟨G + 1 + 1 + 1 + 1, k * 6 + 3, none⟩ (.int .i64 8)).setCell ⟨G + 1 + 1 + 1 + 1, k * 6 + 4, none⟩ (.int .i64 4)).setCell ⟨G + 1 + 1 + 1 + 1, k * 6 + 5, none⟩ (.int .i64 12)) (G + 1 + 1 + 1 + 1) 16 (fun q => if q < k + 1 then okF G else Fr.zero)) := (hfs.out.write k (k * 6) (okF G) rfl).congr fun q _ => by
        by_cases e : q = k
        · rw [if_pos e, if_pos (by omega)]
        · rw [if_neg e]
          by_cases g : q < k
          · rw [if_pos g, if_pos (by omega)]
          · rw [if_neg g, if_neg (by omega)]
      clear hkp hfs
      go_wp2_with fail
      generalize ((((((wr.setCell ⟨G + 1 + 1 + 1 + 1, k * 6, none⟩ (.int .u32 6)).setCell ⟨G + 1 + 1 + 1 + 1, k * 6 + 1, none⟩ (.int .i64 3)).setCell ⟨G + 1 + 1 + 1 + 1, k * 6 + 2, none⟩ (.slice (some ⟨G + 1 + 1, 0, none⟩) 2 2)).setCell ⟨G + 1 + 1 + 1 + 1, k * 6 + 3, none⟩ (.int .i64 8)).setCell ⟨G + 1 + 1 + 1 + 1, k * 6 + 4, none⟩ (.int .i64 4)).setCell ⟨G + 1 + 1 + 1 + 1, k * 6 + 5, none⟩ (.int .i64 12)) = wz at *
      go_roundw
      case rel => exact ⟨k + 1, by omega, by go_num, HK, HF⟩
      case measure => simp [intOf]; omega
    · obtain rfl : k = 16 := by omega
      rw [show ((16 : Nat) : Int) = 16 from rfl]
      clear hk hkn
      generalize wr = x0 at *
      obtain ⟨x1, e_x1⟩ : ∃ x, x0.setCell ⟨G + 1 + 1 + 1 + 1, 1, none⟩ (.int .i64 0) = x := ⟨_, rfl⟩
      obtain ⟨x2, e_x2⟩ : ∃ x, x1.setCell ⟨G + 1 + 1 + 1 + 1, 7, none⟩ (.int .i64 4) = x := ⟨_, rfl⟩
      obtain ⟨x3, e_x3⟩ : ∃ x, x2.setCell ⟨G + 1 + 1 + 1 + 1, 16, none⟩ (.int .i64 (-1)) = x := ⟨_, rfl⟩
      obtain ⟨x4, e_x4⟩ : ∃ x, x3.setCell ⟨G + 1 + 1 + 1 + 1, 23, none⟩ (.int .i64 1099511627777) = x := ⟨_, rfl⟩
      obtain ⟨x5, e_x5⟩ : ∃ x, x4.setCell ⟨G + 1 + 1 + 1 + 1, 28, none⟩ (.int .i64 13) = x := ⟨_, rfl⟩
      obtain ⟨x6, e_x6⟩ : ∃ x, x5.setCell ⟨G + 1 + 1 + 1 + 1, 33, none⟩ (.int .i64 0) = x := ⟨_, rfl⟩
      obtain ⟨x7, e_x7⟩ : ∃ x, x6.setCell ⟨G + 1 + 1 + 1 + 1, 39, none⟩ (.int .i64 65) = x := ⟨_, rfl⟩
      obtain ⟨x8, e_x8⟩ : ∃ x, x7.setCell ⟨G + 1 + 1 + 1 + 1, 42, none⟩ (.int .u32 5) = x := ⟨_, rfl⟩
      obtain ⟨x9, e_x9⟩ : ∃ x, x8.setCell ⟨G + 1 + 1 + 1 + 1, 52, none⟩ (.int .i64 3) = x := ⟨_, rfl⟩
      obtain ⟨x10, e_x10⟩ : ∃ x, x9.setCell ⟨G + 1 + 1 + 1 + 1, 58, none⟩ (.int .i64 4) = x := ⟨_, rfl⟩
      obtain ⟨x11, e_x11⟩ : ∃ x, x10.setCell ⟨G + 1 + 1 + 1 + 1, 59, none⟩ (.int .i64 11) = x := ⟨_, rfl⟩
      obtain ⟨x12, e_x12⟩ : ∃ x, x11.setCell ⟨G + 1 + 1 + 1 + 1, 62, none⟩ (.slice none 0 0) = x := ⟨_, rfl⟩
      obtain ⟨x13, e_x13⟩ : ∃ x, x12.setCell ⟨G + 1 + 1 + 1 + 1, 67, none⟩ (.int .i64 1) = x := ⟨_, rfl⟩
      obtain ⟨y12, e_y12⟩ : ∃ x, x13.alloc (.cells #[.int .u32 3, .int .u32 3] 22) = x := ⟨_, rfl⟩
      obtain ⟨x14, e_x14⟩ : ∃ x, y12.setCell ⟨G + 1 + 1 + 1 + 1, 74, none⟩ (.slice (some ⟨x13.heap.size, 0, none⟩) 2 2) = x := ⟨_, rfl⟩
      obtain ⟨y13, e_y13⟩ : ∃ x, x14.alloc (.cells #[.int .u32 6] 22) = x := ⟨_, rfl⟩
      obtain ⟨x15, e_x15⟩ : ∃ x, y13.setCell ⟨G + 1 + 1 + 1 + 1, 80, none⟩ (.slice (some ⟨x14.heap.size, 0, none⟩) 1 1) = x := ⟨_, rfl⟩
      obtain ⟨y14, e_y14⟩ : ∃ x, x15.alloc (.cells #[.int .u32 3, .int .u32 5, .int .u32 3, .int .u32 5, .int .u32 3] 22) = x := ⟨_, rfl⟩
      obtain ⟨x16, e_x16⟩ : ∃ x, y14.setCell ⟨G + 1 + 1 + 1 + 1, 86, none⟩ (.slice (some ⟨x15.heap.size, 0, none⟩) 5 5) = x := ⟨_, rfl⟩
      obtain ⟨y15, e_y15⟩ : ∃ x, x16.alloc (.cells #[.int .u32 4] 22) = x := ⟨_, rfl⟩
      obtain ⟨x17, e_x17⟩ : ∃ x, y15.setCell ⟨G + 1 + 1 + 1 + 1, 92, none⟩ (.slice (some ⟨x16.heap.size, 0, none⟩) 1 1) = x := ⟨_, rfl⟩
      obtain ⟨z, e_z⟩ : ∃ x, x17.alloc (.cells #[.int .i64 1, .int .i64 1, .int .i64 1, .int .i64 1, .int .i64 1, .int .i64 4, .int .i64 4, .int .i64 5, .int .i64 5, .int .i64 5, .int .i64 6, .int .i64 6, .int .i64 6, .int .i64 6, .int .i64 6, .int .i64 6] 29) = x := ⟨_, rfl⟩
      have F_x0 : FsAt x0 (G + 1 + 1 + 1 + 1) 16 (badTo G (x13.heap.size) (x14.heap.size) (x15.heap.size) (x16.heap.size) 0) := hfs.out.congr fun q hq => by show (if q < 16 then okF G else Fr.zero) = _; rw [if_pos hq]; unfold badTo; rw [if_neg (by omega)]
      have s_x0 : G + 1 + 1 + 1 + 1 < x0.heap.size := F_x0.lt
      have K_x0 : Kept (G + 1 + 1 + 1 + 1) w5 x0 := hkp.out
      clear hfs hkp
      have c_x1 := F_x0.cell 0 1 1 (by decide) (by decide) rfl
      have z_x1 := F_x0.frz 1
      have F_x1 : FsAt x1 (G + 1 + 1 + 1 + 1) 16 (badTo G (x13.heap.size) (x14.heap.size) (x15.heap.size) (x16.heap.size) 1) := e_x1 ▸ fs_step F_x0 1 1 (.int .i64 0) (by decide) rfl (six_cases rfl rfl rfl rfl rfl rfl)
      have K_x1 : Kept (G + 1 + 1 + 1 + 1) w5 x1 := e_x1 ▸ K_x0.trans (Kept.set _ _ _)
      have c_x2 := F_x1.cell 1 1 7 (by decide) (by decide) rfl
      have z_x2 := F_x1.frz 7
      have F_x2 : FsAt x2 (G + 1 + 1 + 1 + 1) 16 (badTo G (x13.heap.size) (x14.heap.size) (x15.heap.size) (x16.heap.size) 2) := e_x2 ▸ fs_step F_x1 1 7 (.int .i64 4) (by decide) rfl (six_cases rfl rfl rfl rfl rfl rfl)
      have K_x2 : Kept (G + 1 + 1 + 1 + 1) w5 x2 := e_x2 ▸ K_x1.trans (Kept.set _ _ _)
      have c_x3 := F_x2.cell 2 4 16 (by decide) (by decide) rfl
      have z_x3 := F_x2.frz 16
      have F_x3 : FsAt x3 (G + 1 + 1 + 1 + 1) 16 (badTo G (x13.heap.size) (x14.heap.size) (x15.heap.size) (x16.heap.size) 3) := e_x3 ▸ fs_step F_x2 4 16 (.int .i64 (-1)) (by decide) rfl (six_cases rfl rfl rfl rfl rfl rfl)
      have K_x3 : Kept (G + 1 + 1 + 1 + 1) w5 x3 := e_x3 ▸ K_x2.trans (Kept.set _ _ _)
      have c_x4 := F_x3.cell 3 5 23 (by decide) (by decide) rfl
      have z_x4 := F_x3.frz 23
      have F_x4 : FsAt x4 (G + 1 + 1 + 1 + 1) 16 (badTo G (x13.heap.size) (x14.heap.size) (x15.heap.size) (x16.heap.size) 4) := e_x4 ▸ fs_step F_x3 5 23 (.int .i64 1099511627777) (by decide) rfl (six_cases rfl rfl rfl rfl rfl rfl)
      have K_x4 : Kept (G + 1 + 1 + 1 + 1) w5 x4 := e_x4 ▸ K_x3.trans (Kept.set _ _ _)
      have c_x5 := F_x4.cell 4 4 28 (by decide) (by decide) rfl
      have z_x5 := F_x4.frz 28
      have F_x5 : FsAt x5 (G + 1 + 1 + 1 + 1) 16 (badTo G (x13.heap.size) (x14.heap.size) (x15.heap.size) (x16.heap.size) 5) := e_x5 ▸ fs_step F_x4 4 28 (.int .i64 13) (by decide) rfl (six_cases rfl rfl rfl rfl rfl rfl)
      have K_x5 : Kept (G + 1 + 1 + 1 + 1) w5 x5 := e_x5 ▸ K_x4.trans (Kept.set _ _ _)
      have c_x6 := F_x5.cell 5 3 33 (by decide) (by decide) rfl
      have z_x6 := F_x5.frz 33
      have F_x6 : FsAt x6 (G + 1 + 1 + 1 + 1) 16 (badTo G (x13.heap.size) (x14.heap.size) (x15.heap.size) (x16.heap.size) 6) := e_x6 ▸ fs_step F_x5 3 33 (.int .i64 0) (by decide) rfl (six_cases rfl rfl rfl rfl rfl rfl)
      have K_x6 : Kept (G + 1 + 1 + 1 + 1) w5 x6 := e_x6 ▸ K_x5.trans (Kept.set _ _ _)
      have c_x7 := F_x6.cell 6 3 39 (by decide) (by decide) rfl
      have z_x7 := F_x6.frz 39
      have F_x7 : FsAt x7 (G + 1 + 1 + 1 + 1) 16 (badTo G (x13.heap.size) (x14.heap.size) (x15.heap.size) (x16.heap.size) 7) := e_x7 ▸ fs_step F_x6 3 39 (.int .i64 65) (by decide) rfl (six_cases rfl rfl rfl rfl rfl rfl)
      have K_x7 : Kept (G + 1 + 1 + 1 + 1) w5 x7 := e_x7 ▸ K_x6.trans (Kept.set _ _ _)
      have c_x8 := F_x7.cell 7 0 42 (by decide) (by decide) rfl
      have z_x8 := F_x7.frz 42
      have F_x8 : FsAt x8 (G + 1 + 1 + 1 + 1) 16 (badTo G (x13.heap.size) (x14.heap.size) (x15.heap.size) (x16.heap.size) 8) := e_x8 ▸ fs_step F_x7 0 42 (.int .u32 5) (by decide) rfl (six_cases rfl rfl rfl rfl rfl rfl)
      have K_x8 : Kept (G + 1 + 1 + 1 + 1) w5 x8 := e_x8 ▸ K_x7.trans (Kept.set _ _ _)
      have c_x9 := F_x8.cell 8 4 52 (by decide) (by decide) rfl
      have z_x9 := F_x8.frz 52
      have F_x9 : FsAt x9 (G + 1 + 1 + 1 + 1) 16 (badTo G (x13.heap.size) (x14.heap.size) (x15.heap.size) (x16.heap.size) 9) := e_x9 ▸ fs_step F_x8 4 52 (.int .i64 3) (by decide) rfl (six_cases rfl rfl rfl rfl rfl rfl)
      have K_x9 : Kept (G + 1 + 1 + 1 + 1) w5 x9 := e_x9 ▸ K_x8.trans (Kept.set _ _ _)
      have c_x10 := F_x9.cell 9 4 58 (by decide) (by decide) rfl
      have z_x10 := F_x9.frz 58
      have F_x10 : FsAt x10 (G + 1 + 1 + 1 + 1) 16 (badTo G (x13.heap.size) (x14.heap.size) (x15.heap.size) (x16.heap.size) 9) := e_x10 ▸ (F_x9.put 9 4 58 (.int .i64 4) (okF G) (by decide) rfl (six_cases rfl rfl rfl rfl rfl rfl)).congr fun q _ => by
        by_cases e : q = 9
        · subst e; rfl
        · rw [if_neg e]
      have K_x10 : Kept (G + 1 + 1 + 1 + 1) w5 x10 := e_x10 ▸ K_x9.trans (Kept.set _ _ _)
      have c_x11 := F_x10.cell 9 5 59 (by decide) (by decide) rfl
      have z_x11 := F_x10.frz 59
      have F_x11 : FsAt x11 (G + 1 + 1 + 1 + 1) 16 (badTo G (x13.heap.size) (x14.heap.size) (x15.heap.size) (x16.heap.size) 10) := e_x11 ▸ fs_step F_x10 5 59 (.int .i64 11) (by decide) rfl (six_cases rfl rfl rfl rfl rfl rfl)
      have K_x11 : Kept (G + 1 + 1 + 1 + 1) w5 x11 := e_x11 ▸ K_x10.trans (Kept.set _ _ _)
      have c_x12 := F_x11.cell 10 2 62 (by decide) (by decide) rfl
      have z_x12 := F_x11.frz 62
      have F_x12 : FsAt x12 (G + 1 + 1 + 1 + 1) 16 (badTo G (x13.heap.size) (x14.heap.size) (x15.heap.size) (x16.heap.size) 11) := e_x12 ▸ fs_step F_x11 2 62 (.slice none 0 0) (by decide) rfl (six_cases rfl rfl rfl rfl rfl rfl)
      have K_x12 : Kept (G + 1 + 1 + 1 + 1) w5 x12 := e_x12 ▸ K_x11.trans (Kept.set _ _ _)
      have c_x13 := F_x12.cell 11 1 67 (by decide) (by decide) rfl
      have z_x13 := F_x12.frz 67
      have F_x13 : FsAt x13 (G + 1 + 1 + 1 + 1) 16 (badTo G (x13.heap.size) (x14.heap.size) (x15.heap.size) (x16.heap.size) 12) := e_x13 ▸ fs_step F_x12 1 67 (.int .i64 1) (by decide) rfl (six_cases rfl rfl rfl rfl rfl rfl)
      have K_x13 : Kept (G + 1 + 1 + 1 + 1) w5 x13 := e_x13 ▸ K_x12.trans (Kept.set _ _ _)
      have B_y12 : Below x13.heap.size x13 y12 := e_y12 ▸ box_below x13 (.cells #[.int .u32 3, .int .u32 3] 22)
      have F_y12 := F_x13.grew B_y12
      have K_y12 : Kept (G + 1 + 1 + 1 + 1) w5 y12 := K_x13.trans (Kept.of_below B_y12)
      have R12_y12 : NumsAt .u32 y12 (some ⟨x13.heap.size, 0, none⟩) 2 (rfs 12) := by
        rw [← e_y12]
        refine nums_lit .u32 x13 _ _ 2 _ fun i hi => ?_
        have hi : i = 0 ∨ i = 1 := by omega
        rcases hi with rfl | rfl <;> rfl
      have N12 : x13.heap.size ≠ G + 1 + 1 + 1 + 1 := by have := F_x13.lt; omega
      have c_x14 := F_y12.cell 12 2 74 (by decide) (by decide) rfl
      have z_x14 := F_y12.frz 74
      have F_x14 : FsAt x14 (G + 1 + 1 + 1 + 1) 16 (badTo G (x13.heap.size) (x14.heap.size) (x15.heap.size) (x16.heap.size) 13) := e_x14 ▸ fs_step F_y12 2 74 (.slice (some ⟨x13.heap.size, 0, none⟩) 2 2) (by decide) rfl (six_cases rfl rfl rfl rfl rfl rfl)
      have K_x14 : Kept (G + 1 + 1 + 1 + 1) w5 x14 := e_x14 ▸ K_y12.trans (Kept.set _ _ _)
      have R12_x14 := nums_kept R12_y12 (e_x14 ▸ Kept.set (R := (G + 1 + 1 + 1 + 1)) y12 74 (.slice (some ⟨x13.heap.size, 0, none⟩) 2 2)) N12
      have B_y13 : Below x14.heap.size x14 y13 := e_y13 ▸ box_below x14 (.cells #[.int .u32 6] 22)
      have F_y13 := F_x14.grew B_y13
      have K_y13 : Kept (G + 1 + 1 + 1 + 1) w5 y13 := K_x14.trans (Kept.of_below B_y13)
      have R12_y13 := R12_x14.grew B_y13
      have R13_y13 : NumsAt .u32 y13 (some ⟨x14.heap.size, 0, none⟩) 1 (rfs 13) := by
        rw [← e_y13]
        refine nums_lit .u32 x14 _ _ 1 _ fun i hi => ?_
        have hi : i = 0 := by omega
        rcases hi with rfl <;> rfl
      have N13 : x14.heap.size ≠ G + 1 + 1 + 1 + 1 := by have := F_x14.lt; omega
      have c_x15 := F_y13.cell 13 2 80 (by decide) (by decide) rfl
      have z_x15 := F_y13.frz 80
      have F_x15 : FsAt x15 (G + 1 + 1 + 1 + 1) 16 (badTo G (x13.heap.size) (x14.heap.size) (x15.heap.size) (x16.heap.size) 14) := e_x15 ▸ fs_step F_y13 2 80 (.slice (some ⟨x14.heap.size, 0, none⟩) 1 1) (by decide) rfl (six_cases rfl rfl rfl rfl rfl rfl)
      have K_x15 : Kept (G + 1 + 1 + 1 + 1) w5 x15 := e_x15 ▸ K_y13.trans (Kept.set _ _ _)
      have R12_x15 := nums_kept R12_y13 (e_x15 ▸ Kept.set (R := (G + 1 + 1 + 1 + 1)) y13 80 (.slice (some ⟨x14.heap.size, 0, none⟩) 1 1)) N12
      have R13_x15 := nums_kept R13_y13 (e_x15 ▸ Kept.set (R := (G + 1 + 1 + 1 + 1)) y13 80 (.slice (some ⟨x14.heap.size, 0, none⟩) 1 1)) N13
      have B_y14 : Below x15.heap.size x15 y14 := e_y14 ▸ box_below x15 (.cells #[.int .u32 3, .int .u32 5, .int .u32 3, .int .u32 5, .int .u32 3] 22)
      have F_y14 := F_x15.grew B_y14
      have K_y14 : Kept (G + 1 + 1 + 1 + 1) w5 y14 := K_x15.trans (Kept.of_below B_y14)
      have R12_y14 := R12_x15.grew B_y14
      have R13_y14 := R13_x15.grew B_y14
      have R14_y14 : NumsAt .u32 y14 (some ⟨x15.heap.size, 0, none⟩) 5 (rfs 14) := by
        rw [← e_y14]
        refine nums_lit .u32 x15 _ _ 5 _ fun i hi => ?_
        have hi : i = 0 ∨ i = 1 ∨ i = 2 ∨ i = 3 ∨ i = 4 := by omega
        rcases hi with rfl | rfl | rfl | rfl | rfl <;> rfl
      have N14 : x15.heap.size ≠ G + 1 + 1 + 1 + 1 := by have := F_x15.lt; omega
      have c_x16 := F_y14.cell 14 2 86 (by decide) (by decide) rfl
      have z_x16 := F_y14.frz 86
      have F_x16 : FsAt x16 (G + 1 + 1 + 1 + 1) 16 (badTo G (x13.heap.size) (x14.heap.size) (x15.heap.size) (x16.heap.size) 15) := e_x16 ▸ fs_step F_y14 2 86 (.slice (some ⟨x15.heap.size, 0, none⟩) 5 5) (by decide) rfl (six_cases rfl rfl rfl rfl rfl rfl)
      have K_x16 : Kept (G + 1 + 1 + 1 + 1) w5 x16 := e_x16 ▸ K_y14.trans (Kept.set _ _ _)
      have R12_x16 := nums_kept R12_y14 (e_x16 ▸ Kept.set (R := (G + 1 + 1 + 1 + 1)) y14 86 (.slice (some ⟨x15.heap.size, 0, none⟩) 5 5)) N12
      have R13_x16 := nums_kept R13_y14 (e_x16 ▸ Kept.set (R := (G + 1 + 1 + 1 + 1)) y14 86 (.slice (some ⟨x15.heap.size, 0, none⟩) 5 5)) N13
      have R14_x16 := nums_kept R14_y14 (e_x16 ▸ Kept.set (R := (G + 1 + 1 + 1 + 1)) y14 86 (.slice (some ⟨x15.heap.size, 0, none⟩) 5 5)) N14
      have B_y15 : Below x16.heap.size x16 y15 := e_y15 ▸ box_below x16 (.cells #[.int .u32 4] 22)
      have F_y15 := F_x16.grew B_y15
      have K_y15 : Kept (G + 1 + 1 + 1 + 1) w5 y15 := K_x16.trans (Kept.of_below B_y15)
      have R12_y15 := R12_x16.grew B_y15
      have R13_y15 := R13_x16.grew B_y15
      have R14_y15 := R14_x16.grew B_y15
      have R15_y15 : NumsAt .u32 y15 (some ⟨x16.heap.size, 0, none⟩) 1 (rfs 15) := by
        rw [← e_y15]
        refine nums_lit .u32 x16 _ _ 1 _ fun i hi => ?_
        have hi : i = 0 := by omega
        rcases hi with rfl <;> rfl
      have N15 : x16.heap.size ≠ G + 1 + 1 + 1 + 1 := by have := F_x16.lt; omega
      have c_x17 := F_y15.cell 15 2 92 (by decide) (by decide) rfl
      have z_x17 := F_y15.frz 92
      have F_x17 : FsAt x17 (G + 1 + 1 + 1 + 1) 16 (badTo G (x13.heap.size) (x14.heap.size) (x15.heap.size) (x16.heap.size) 16) := e_x17 ▸ fs_step F_y15 2 92 (.slice (some ⟨x16.heap.size, 0, none⟩) 1 1) (by decide) rfl (six_cases rfl rfl rfl rfl rfl rfl)
      have K_x17 : Kept (G + 1 + 1 + 1 + 1) w5 x17 := e_x17 ▸ K_y15.trans (Kept.set _ _ _)
      have R12_x17 := nums_kept R12_y15 (e_x17 ▸ Kept.set (R := (G + 1 + 1 + 1 + 1)) y15 92 (.slice (some ⟨x16.heap.size, 0, none⟩) 1 1)) N12
      have R13_x17 := nums_kept R13_y15 (e_x17 ▸ Kept.set (R := (G + 1 + 1 + 1 + 1)) y15 92 (.slice (some ⟨x16.heap.size, 0, none⟩) 1 1)) N13
      have R14_x17 := nums_kept R14_y15 (e_x17 ▸ Kept.set (R := (G + 1 + 1 + 1 + 1)) y15 92 (.slice (some ⟨x16.heap.size, 0, none⟩) 1 1)) N14
      have R15_x17 := nums_kept R15_y15 (e_x17 ▸ Kept.set (R := (G + 1 + 1 + 1 + 1)) y15 92 (.slice (some ⟨x16.heap.size, 0, none⟩) 1 1)) N15
      have B_z : Below x17.heap.size x17 z := e_z ▸ box_below x17 (.cells #[.int .i64 1, .int .i64 1, .int .i64 1, .int .i64 1, .int .i64 1, .int .i64 4, .int .i64 4, .int .i64 5, .int .i64 5, .int .i64 5, .int .i64 6, .int .i64 6, .int .i64 6, .int .i64 6, .int .i64 6, .int .i64 6] 29)
      have F_z := F_x17.grew B_z
      have K_z : Kept (G + 1 + 1 + 1 + 1) w5 z := K_x17.trans (Kept.of_below B_z)
      have R12_z := R12_x17.grew B_z
      have R13_z := R13_x17.grew B_z
      have R14_z := R14_x17.grew B_z
      have R15_z := R15_x17.grew B_z
      have RW_z : NumsAt .i64 z (some ⟨x17.heap.size, 0, none⟩) 16 (want) := by
        rw [← e_z]
        refine nums_lit .i64 x17 _ _ 16 _ fun i hi => ?_
        have hi : i = 0 ∨ i = 1 ∨ i = 2 ∨ i = 3 ∨ i = 4 ∨ i = 5 ∨ i = 6 ∨ i = 7 ∨ i = 8 ∨ i = 9 ∨ i = 10 ∨ i = 11 ∨ i = 12 ∨ i = 13 ∨ i = 14 ∨ i = 15 := by omega
        rcases hi with rfl | rfl | rfl | rfl | rfl | rfl | rfl | rfl | rfl | rfl | rfl | rfl | rfl | rfl | rfl | rfl <;> rfl
      have NW : x17.heap.size ≠ G + 1 + 1 + 1 + 1 := by have := F_x17.lt; omega
      have Q : Hid (FsAt z (G + 1 + 1 + 1 + 1) 16 (bad G (x13.heap.size) (x14.heap.size) (x15.heap.size) (x16.heap.size))) := F_z.congr fun q hq => by unfold badTo; rw [if_pos hq]
      have QM : Hid (Fm z G) := HM.out.kept K_z
      have QR : Hid (∀ k, k < 16 → RefsAt z (bad G (x13.heap.size) (x14.heap.size) (x15.heap.size) (x16.heap.size) k) (rfs k)) := by
        have M := HM.out.kept K_z
        intro k hk
        match k, hk with
        | 0, _ => exact ⟨M.r0, Nat.le_refl _, by show 2 ≤ 1000; decide⟩
        | 1, _ => exact ⟨M.r0, Nat.le_refl _, by show 2 ≤ 1000; decide⟩
        | 2, _ => exact ⟨M.r0, Nat.le_refl _, by show 2 ≤ 1000; decide⟩
        | 3, _ => exact ⟨M.r0, Nat.le_refl _, by show 2 ≤ 1000; decide⟩
        | 4, _ => exact ⟨M.r0, Nat.le_refl _, by show 2 ≤ 1000; decide⟩
        | 5, _ => exact ⟨M.r0, Nat.le_refl _, by show 2 ≤ 1000; decide⟩
        | 6, _ => exact ⟨M.r0, Nat.le_refl _, by show 2 ≤ 1000; decide⟩
        | 7, _ => exact ⟨M.r0, Nat.le_refl _, by show 2 ≤ 1000; decide⟩
        | 8, _ => exact ⟨M.r0, Nat.le_refl _, by show 2 ≤ 1000; decide⟩
        | 9, _ => exact ⟨M.r0, Nat.le_refl _, by show 2 ≤ 1000; decide⟩
        | 10, _ => exact ⟨fun h => absurd (show 0 < 0 from h) (by decide), Nat.le_refl _, by show 0 ≤ 1000; decide⟩
        | 11, _ => exact ⟨M.r0, Nat.le_refl _, by show 2 ≤ 1000; decide⟩
        | 12, _ => exact ⟨R12_z, Nat.le_refl _, by show 2 ≤ 1000; decide⟩
        | 13, _ => exact ⟨R13_z, Nat.le_refl _, by show 1 ≤ 1000; decide⟩
        | 14, _ => exact ⟨R14_z, Nat.le_refl _, by show 5 ≤ 1000; decide⟩
        | 15, _ => exact ⟨R15_z, Nat.le_refl _, by show 1 ≤ 1000; decide⟩
        | k + 16, h => exact absurd h (by omega)
      have QW : Hid (NumsAt .i64 z (some ⟨x17.heap.size, 0, none⟩) 16 want) := RW_z
      have QB : Hid (Below w.heap.size w z) := HB.out.trans (K_z.below (by have := HG.out; omega) HB.out.size)
      clear F_x0 K_x0 F_x1 K_x1 F_x2 K_x2 F_x3 K_x3 F_x4 K_x4 F_x5 K_x5 F_x6 K_x6 F_x7 K_x7 F_x8 K_x8 F_x9 K_x9 F_x10 K_x10 F_x11 K_x11 F_x12 K_x12 F_x13 K_x13 F_y12 K_y12 F_x14 K_x14 F_y13 K_y13 F_x15 K_x15 F_y14 K_y14 F_x16 K_x16 F_y15 K_y15 F_x17 K_x17 F_z K_z B_y12 B_y13 B_y14 B_y15 B_z
      clear R12_y12 R12_x14 R12_y13 R13_y13 R12_x15 R13_x15 R12_y14 R13_y14 R14_y14 R12_x16 R13_x16 R14_x16 R12_y15 R13_y15 R14_y15 R15_y15 R12_x17 R13_x17 R14_x17 R15_x17 R12_z R13_z R14_z R15_z RW_z N12 N13 N14 N15 NW s_x0 HM HB HZ HG
      go_wp2_with fail
      clear e_x1 e_x2 e_x3 e_x4 e_x5 e_x6 e_x7 e_x8 e_x9 e_x10 e_x11 e_x12 e_x13 e_y12 e_x14 e_y13 e_x15 e_y14 e_x16 e_y15 e_x17 e_z c_x1 z_x1 c_x2 z_x2 c_x3 z_x3 c_x4 z_x4 c_x5 z_x5 c_x6 z_x6 c_x7 z_x7 c_x8 z_x8 c_x9 z_x9 c_x10 z_x10 c_x11 z_x11 c_x12 z_x12 c_x13 z_x13 c_x14 z_x14 c_x15 z_x15 c_x16 z_x16 c_x17 z_x17
      generalize x13.heap.size = b12 at *
      generalize x14.heap.size = b13 at *
      generalize x15.heap.size = b14 at *
      generalize x16.heap.size = b15 at *
      generalize x17.heap.size = WB at *
      go_loopw [6] (fun i wr => ∃ k : Nat, k ≤ 16 ∧ i = .int .i64 k ∧ Hid (Below z.heap.size z wr)) (fun i _ => 16 - (intOf i).toNat)
      case atStart => exact ⟨0, Nat.zero_le _, rfl, Below.refl _ _⟩
      case round =>
        obtain ⟨k, hk, rfl, hb⟩ := hrel
        by_cases hkn : k < 16
        · have i1 : (k : Int) < 16 := by omega
          have HC : Hid (∀ W, Below z.heap.size z W → W.cell? ⟨G + 1 + 1 + 1 + 1, k * 6, none⟩ = some (.int .u32 ((bad G b12 b13 b14 b15 k).id : Int)) ∧ W.cell? ⟨G + 1 + 1 + 1 + 1, k * 6 + 1, none⟩ = some (.int .i64 (bad G b12 b13 b14 b15 k).k) ∧ W.cell? ⟨G + 1 + 1 + 1 + 1, k * 6 + 2, none⟩ = some (.slice (bad G b12 b13 b14 b15 k).a (bad G b12 b13 b14 b15 k).n (bad G b12 b13 b14 b15 k).c) ∧ W.cell? ⟨G + 1 + 1 + 1 + 1, k * 6 + 3, none⟩ = some (.int .i64 (bad G b12 b13 b14 b15 k).s) ∧ W.cell? ⟨G + 1 + 1 + 1 + 1, k * 6 + 4, none⟩ = some (.int .i64 (bad G b12 b13 b14 b15 k).p) ∧ W.cell? ⟨G + 1 + 1 + 1 + 1, k * 6 + 5, none⟩ = some (.int .i64 (bad G b12 b13 b14 b15 k).d)) := fun W hW =>
            ⟨(Q.out.grew hW).cell k 0 _ hkn (by decide) (by omega), (Q.out.grew hW).cell k 1 _ hkn (by decide) (by omega), (Q.out.grew hW).cell k 2 _ hkn (by decide) (by omega), (Q.out.grew hW).cell k 3 _ hkn (by decide) (by omega), (Q.out.grew hW).cell k 4 _ hkn (by decide) (by omega), (Q.out.grew hW).cell k 5 _ hkn (by decide) (by omega)⟩
          have HR : Hid (∀ W, Below z.heap.size z W → RefsAt W (bad G b12 b13 b14 b15 k) (rfs k)) := fun W hW => (QR.out k hkn).grew hW
          have HE : Hid (chk (bad G b12 b13 b14 b15 k) (rfs k) 2 (kn G) 11 2 = want k) := bad_want G b12 b13 b14 b15 k hkn
          have HT : Hid (∀ W, Below z.heap.size z W → W.cell? ⟨WB, k, none⟩ = some (.int .i64 (want k))) := fun W hW => by
            have := nums_cell (QW.out.grew hW) k hkn
            rw [Nat.zero_add] at this
            exact this
          clear Q QR QW QB
          generalize (bad G b12 b13 b14 b15 k) = g at *
          generalize want k = wk at *
          go_wp2_with fail
          refine wp_region_held (S := fun W => Below z.heap.size z W) (by kernel_rfl) ?_
          change wpAnyH _ _ _ _ _ _ _ _ wr.drew
          have hr : Below z.heap.size z wr.drew := hb.out.drew
          clear hb
          generalize wr.drew = w3 at *
          refine wpAnyH_take (i := 0) (v := .slice (some ⟨G + 1 + 1 + 1 + 1, 0, none⟩) 16 16) rfl (by kernel_rfl) (by kernel_rfl) (by kernel_rfl) (fun _ _ _ h => h) (Yields.yieldsIf (Or.inl ⟨by kernel_rfl, fun _ => by kernel_rfl⟩)) hr ?_
          refine wpAnyH_take (i := 1) (v := .int .i64 (k : Int)) rfl (by kernel_rfl) (by kernel_rfl) (by kernel_rfl) (fun _ _ _ h => h) (Yields.yieldsIf (Or.inl ⟨by kernel_rfl, fun _ => by kernel_rfl⟩)) hr ?_
          refine wpAnyH_take (i := 2) (v := .pointer (some ⟨G + 1 + 1 + 1 + 1, k * 6, none⟩)) rfl (by kernel_rfl) (by kernel_rfl) (by kernel_rfl) (fun _ _ _ h => h) (Yields.yieldsIf (Or.inl ⟨by kernel_rfl, fun _ => by go_simp⟩)) hr ?_
          refine wpAnyH_take (i := 3) (v := .agg #[.int .u32 (g.id : Int), .int .i64 g.k, .slice g.a g.n g.c, .int .i64 g.s, .int .i64 g.p, .int .i64 g.d]) rfl (by kernel_rfl) (by kernel_rfl) (by kernel_rfl) (fun _ _ _ h => h) (Or.inl ⟨by kernel_rfl, fun W hW => by obtain ⟨g0, g1, g2, g3, g4, g5⟩ := HC.out W hW; go_simp⟩) hr ?_
          refine wpAnyH_take (i := 4) (v := .slice (some ⟨G + 1, 0, none⟩) 2 2) rfl (by kernel_rfl) (by kernel_rfl) (by kernel_rfl) (fun _ _ _ h => h) (Yields.yieldsIf (Or.inl ⟨by kernel_rfl, fun _ => by kernel_rfl⟩)) hr ?_
          refine wpAnyH_take (i := 6) (v := .slice (some ⟨WB, 0, none⟩) 16 16) rfl (by kernel_rfl) (by kernel_rfl) (by kernel_rfl) (fun _ _ _ h => h) (Yields.yieldsIf (Or.inl ⟨by kernel_rfl, fun _ => by kernel_rfl⟩)) hr ?_
          refine wpAnyH_take (i := 7) (v := .int .i64 (k : Int)) rfl (by kernel_rfl) (by kernel_rfl) (by kernel_rfl) (fun _ _ _ h => h) (Yields.yieldsIf (Or.inl ⟨by kernel_rfl, fun _ => by kernel_rfl⟩)) hr ?_
          refine wpAnyH_take (i := 8) (v := .pointer (some ⟨WB, k, none⟩)) rfl (by kernel_rfl) (by kernel_rfl) (by kernel_rfl) (fun _ _ _ h => h) (Yields.yieldsIf (Or.inl ⟨by kernel_rfl, fun _ => by go_simp⟩)) hr ?_
          refine wpAnyH_take (i := 9) (v := .int .i64 wk) rfl (by kernel_rfl) (by kernel_rfl) (by kernel_rfl) (fun _ _ _ h => h) (Or.inl ⟨by kernel_rfl, fun W hW => by have g0 := HT.out W hW; go_simp⟩) hr ?_
          refine wpAnyH_ready (rs := [5]) (by kernel_rfl) (by simp) ?_
          refine AllReadyH.cons rfl (fun K2 hK2 => ?_) AllReadyH.nil
          go_simp
          refine Calls.mono (check_is (f := g) (r := rfs k) (E := wk) HE.out (by decide) (HR.out w3 hr) (QM.out.grew hr).kn) ?_
          rintro e w4 ⟨rfl, d4⟩
          have hr := hr.trans (d4.mono hr.size)
          refine hK2.out _ _ hr (fun hr => ?_)
          clear hK2 K2 d4
          refine wpAnyH_take (i := 10) (v := .bool false) rfl (by kernel_rfl) (by kernel_rfl) (by kernel_rfl) (fun _ _ _ h => h) (Yields.yieldsIf (Or.inl ⟨by kernel_rfl, fun _ => by go_simp⟩)) hr ?_
          refine wpAnyH_done (by kernel_rfl) ?_ _
          have HB : Hid (Below z.heap.size z w4) := hr
          clear hr
          go_wp2_with fail
          go_roundw
          case rel => exact ⟨k + 1, by omega, by go_num, HB⟩
          case measure => simp [intOf]; omega
        · obtain rfl : k = 16 := by omega
          clear hk hkn Q QR QW
          generalize wr = v0 at *
          have QB : Hid (Below w.heap.size w v0) := QB.out.trans (hb.out.mono QB.out.size)
          have M0 := QM.out.grew hb.out
          have s0 := M0.ok.lt
          clear QM hb
          obtain ⟨v1, e1⟩ : ∃ x, v0.alloc (.cells (madeCells #[.int .u32 0, .int .i64 0, .slice none 0 0, .int .i64 0, .int .i64 0, .int .i64 0] 600) 25) = x := ⟨_, rfl⟩
          obtain ⟨v2, e2⟩ : ∃ x, ((((((v1.setCell ⟨v0.heap.size, 594, none⟩ (.int .u32 5)).setCell ⟨v0.heap.size, 595, none⟩ (.int .i64 2)).setCell ⟨v0.heap.size, 596, none⟩ (.slice (some ⟨G, 0, none⟩) 1 1)).setCell ⟨v0.heap.size, 597, none⟩ (.int .i64 1)).setCell ⟨v0.heap.size, 598, none⟩ (.int .i64 4)).setCell ⟨v0.heap.size, 599, none⟩ (.int .i64 12)) = x := ⟨_, rfl⟩
          obtain ⟨v3, e3⟩ : ∃ x, ((((((v2.setCell ⟨v0.heap.size, 0, none⟩ (.int .u32 3)).setCell ⟨v0.heap.size, 1, none⟩ (.int .i64 1)).setCell ⟨v0.heap.size, 2, none⟩ (.slice none 0 0)).setCell ⟨v0.heap.size, 3, none⟩ (.int .i64 1)).setCell ⟨v0.heap.size, 4, none⟩ (.int .i64 2)).setCell ⟨v0.heap.size, 5, none⟩ (.int .i64 10)) = x := ⟨_, rfl⟩
          have B1 : Below v0.heap.size v0 v1 := e1 ▸ box_below v0 _
          have F1 : FsAt v1 v0.heap.size 100 (fun _ => Fr.zero) := e1 ▸ FsAt.made v0 100
          have F2 : FsAt v2 v0.heap.size 100 _ := e2 ▸ F1.write 99 594 (kn G 1) rfl
          have F3 : FsAt v3 v0.heap.size 100 _ := e3 ▸ F2.write 0 0 (kn G 0) rfl
          have K2 : Kept v0.heap.size v1 v2 := e2 ▸ (Kept.refl _ _).write 594 (kn G 1)
          have K3 : Kept v0.heap.size v2 v3 := e3 ▸ (Kept.refl _ _).write 0 (kn G 0)
          have M1 := M0.grew B1
          have M2 := M1.kept K2
          have M3 := M2.kept K3
          have B3 : Below v0.heap.size v0 v3 := (B1.trans (K2.below (Nat.le_refl _) B1.size)).trans (K3.below (Nat.le_refl _) (Nat.le_trans B1.size K2.size))
          have q0 : v1.cell? ⟨G + 1, 6, none⟩ = some (.int .u32 5) := (M1.kn.at 1 (by decide)).1
          have r0 : v2.cell? ⟨G + 1, 0, none⟩ = some (.int .u32 3) := (M2.kn.at 0 (by decide)).1
          have c0 := F1.cell 99 0 594 (by decide) (by decide) rfl
          have z0 := F1.frz 594
          have d0 := F2.cell 0 0 0 (by decide) (by decide) rfl
          have y0 := F2.frz 0
          have q1 : v1.cell? ⟨G + 1, 7, none⟩ = some (.int .i64 2) := (M1.kn.at 1 (by decide)).2.1
          have r1 : v2.cell? ⟨G + 1, 1, none⟩ = some (.int .i64 1) := (M2.kn.at 0 (by decide)).2.1
          have c1 := F1.cell 99 1 595 (by decide) (by decide) rfl
          have z1 := F1.frz 595
          have d1 := F2.cell 0 1 1 (by decide) (by decide) rfl
          have y1 := F2.frz 1
          have q2 : v1.cell? ⟨G + 1, 8, none⟩ = some (.slice (some ⟨G, 0, none⟩) 1 1) := (M1.kn.at 1 (by decide)).2.2.1
          have r2 : v2.cell? ⟨G + 1, 2, none⟩ = some (.slice none 0 0) := (M2.kn.at 0 (by decide)).2.2.1
          have c2 := F1.cell 99 2 596 (by decide) (by decide) rfl
          have z2 := F1.frz 596
          have d2 := F2.cell 0 2 2 (by decide) (by decide) rfl
          have y2 := F2.frz 2
          have q3 : v1.cell? ⟨G + 1, 9, none⟩ = some (.int .i64 1) := (M1.kn.at 1 (by decide)).2.2.2.1
          have r3 : v2.cell? ⟨G + 1, 3, none⟩ = some (.int .i64 1) := (M2.kn.at 0 (by decide)).2.2.2.1
          have c3 := F1.cell 99 3 597 (by decide) (by decide) rfl
          have z3 := F1.frz 597
          have d3 := F2.cell 0 3 3 (by decide) (by decide) rfl
          have y3 := F2.frz 3
          have q4 : v1.cell? ⟨G + 1, 10, none⟩ = some (.int .i64 4) := (M1.kn.at 1 (by decide)).2.2.2.2.1
          have r4 : v2.cell? ⟨G + 1, 4, none⟩ = some (.int .i64 2) := (M2.kn.at 0 (by decide)).2.2.2.2.1
          have c4 := F1.cell 99 4 598 (by decide) (by decide) rfl
          have z4 := F1.frz 598
          have d4 := F2.cell 0 4 4 (by decide) (by decide) rfl
          have y4 := F2.frz 4
          have q5 : v1.cell? ⟨G + 1, 11, none⟩ = some (.int .i64 12) := (M1.kn.at 1 (by decide)).2.2.2.2.2
          have r5 : v2.cell? ⟨G + 1, 5, none⟩ = some (.int .i64 10) := (M2.kn.at 0 (by decide)).2.2.2.2.2
          have c5 := F1.cell 99 5 599 (by decide) (by decide) rfl
          have z5 := F1.frz 599
          have d5 := F2.cell 0 5 5 (by decide) (by decide) rfl
          have y5 := F2.frz 5
          have HF : Hid (FsAt v3 v0.heap.size 100 (many G)) := F3.congr fun q _ => rfl
          have HM : Hid (Fm v3 G) := M3
          have HB : Hid (Below w.heap.size w v3) := QB.out.trans (B3.mono QB.out.size)
          obtain ⟨f0, f1, f2, f3, f4, f5, -⟩ := M3.ok
          simp only [okF] at f0 f1 f2 f3 f4 f5
          clear B1 F1 F2 F3 K2 K3 M0 M1 M2 M3 B3 QB s0
          go_wp2_with fail
          clear e1 e2 e3 q0 r0 c0 z0 d0 y0 q1 r1 c1 z1 d1 y1 q2 r2 c2 z2 d2 y2 q3 r3 c3 z3 d3 y3 q4 r4 c4 z4 d4 y4 q5 r5 c5 z5 d5 y5
          generalize v0.heap.size = M at *
          have BW : Hid (Below v3.heap.size v3 v3) := Below.refl _ _
          refine (check_is (f := okF G) (r := r53) (K := kn G) (m := 2) (c := 2) (t := 11) (s := 2) (E := 0) (by kernel_rfl) (by decide) ⟨(HM.out.grew BW.out).r0, Nat.le_refl _, by show 2 ≤ 1000; decide⟩ (HM.out.grew BW.out).kn).mono ?_
          rintro e u1 ⟨rfl, hb⟩
          have BW : Hid (Below v3.heap.size v3 u1) := BW.out.trans (hb.mono BW.out.size)
          clear hb f0 f1 f2 f3 f4 f5
          obtain ⟨f0, f1, f2, f3, f4, f5, -⟩ := (HM.out.grew BW.out).ok
          simp only [okF] at f0 f1 f2 f3 f4 f5
          go_wp2_with fail
          refine (check_is (f := okF G) (r := r53) (K := kn G) (m := 2) (c := 2) (t := 12) (s := 2) (E := 7) (by kernel_rfl) (by decide) ⟨(HM.out.grew BW.out).r0, Nat.le_refl _, by show 2 ≤ 1000; decide⟩ (HM.out.grew BW.out).kn).mono ?_
          rintro e u2 ⟨rfl, hb⟩
          have BW : Hid (Below v3.heap.size v3 u2) := BW.out.trans (hb.mono BW.out.size)
          clear hb f0 f1 f2 f3 f4 f5
          obtain ⟨f0, f1, f2, f3, f4, f5, -⟩ := (HM.out.grew BW.out).ok
          simp only [okF] at f0 f1 f2 f3 f4 f5
          go_wp2_with fail
          refine (check_is (f := okF G) (r := r53) (K := many G) (m := 100) (c := 100) (t := 11) (s := 2) (E := 8) (by kernel_rfl) (by decide) ⟨(HM.out.grew BW.out).r0, Nat.le_refl _, by show 2 ≤ 1000; decide⟩ (HF.out.grew BW.out).frs).mono ?_
          rintro e u3 ⟨rfl, hb⟩
          have BW : Hid (Below v3.heap.size v3 u3) := BW.out.trans (hb.mono BW.out.size)
          clear hb f0 f1 f2 f3 f4 f5
          obtain ⟨f0, f1, f2, f3, f4, f5, -⟩ := (HM.out.grew BW.out).ok
          simp only [okF] at f0 f1 f2 f3 f4 f5
          go_wp2_with fail
          refine (check_is (f := okF G) (r := r53) (K := many G) (m := 100) (c := 100) (t := 12) (s := 2) (E := 7) (by kernel_rfl) (by decide) ⟨(HM.out.grew BW.out).r0, Nat.le_refl _, by show 2 ≤ 1000; decide⟩ (HF.out.grew BW.out).frs).mono ?_
          rintro e u4 ⟨rfl, hb⟩
          have BW : Hid (Below v3.heap.size v3 u4) := BW.out.trans (hb.mono BW.out.size)
          clear hb f0 f1 f2 f3 f4 f5
          go_wp2
          go_ret
          exact ⟨rfl, HB.out.trans (BW.out.mono HB.out.size)⟩

/-! ### THE ROW's STEP: WRITTEN OUT: LEAVE IT -/
set_option maxRecDepth 100000 in
theorem lifted (os : Os) (started : os.Started) (H : Type) (enc : TypeId × Value → H) :
    ReturnsInHanded {} Try.checked os 6 .any (Rows.frameFormsSpec.pre6 enc Try.prog Try.f6 Rows.frameFormsRow.domain false) (Rows.frameFormsSpec.post enc Try.prog Try.f6 false true false false) := by
  refine returnsInHanded_of_change (C := Try.checked) own started (by kernel_rfl) Try.func6
    (ChangeSpec.witness6 (enc := enc) (C := Try.checked) false ⟨#[], #[], []⟩ 8 (by kernel_rfl) (by kernel_rfl) (by kernel_rfl) (by kernel_rfl)) ?_
  intro W base args ds gs before hval0 hW hcnd _
  have hval : ∀ (j : Nat) t v, Try.f6.params[j]? = some t → args[j]? = some v → Value.okWide Try.prog W .any base t v := hval0
  have hW' := hW
  obtain ⟨p, q, hA0, hV, rfl, hfz, hnd⟩ := hW
  have hA : DataW.TrodAll enc Try.prog W 0 (fun _ => true) true Try.f6.params.toList args.toList ds p := hA0
  rw [Try.params6] at hA hval
  obtain ⟨rfl, rfl, rfl⟩ := trodAll_none hA
  obtain ⟨rfl, rfl⟩ := trodVars_none hV
  clear hA0 hval0
  simp only [List.append_nil] at hW'
  refine (walk  W).mono fun e W' ⟨he, hg⟩ => ?_
  subst he
  exact ⟨_, rfl, _, _, _, [], [], [], hW', (trodAll_cons_mk (shut_bool Try.underlying4 _) trodAll_mk0), rfl, rfl, hg.frame _, fun h => by cases h⟩

theorem over : Rows.frameFormsRow.holds Try.pinned (OpenSpec.ofChange Rows.frameFormsSpec) :=
  OpenClaim.holds_of_wide 6 Try.f6 rfl rfl rfl rfl rfl rfl rfl ⟨rfl, rfl, rfl, rfl, rfl⟩ rfl rfl rfl rfl rfl (by kernel_rfl) Try.func6 (by kernel_rfl)
    (of_decide_eq_true (by kernel_rfl)) (by unfold Func.isWrapper; first | (rw [if_pos (by decide +kernel)]; kernel_rfl) | (rw [if_neg (by decide +kernel)]; exact ⟨rfl, rfl⟩))
    (fun os started H enc _ => lifted os started H enc)

theorem proved : Rows.FrameFormsSaid :=
  over
end Go.Proofs.Ytheedopfchkebaa.frameForms
namespace Go.Proofs.Ytheedopfchkebaa
theorem frameForms_holds : Rows.FrameFormsSaid := frameForms.proved
#print axioms frameForms_holds
end Go.Proofs.Ytheedopfchkebaa

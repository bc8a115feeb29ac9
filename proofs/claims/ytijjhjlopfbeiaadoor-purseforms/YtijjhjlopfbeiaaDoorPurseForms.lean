/-
  Who gets how much, of seven budgets, is what the statement PurseForms lists: the call returns true (a closed statement; what the table of weights holds is tied to the program's text).
-/
import Derived.Test.YtijjhjlopfbeiaaDoorRows
import Derived.Test.YtijjhjlopfbeiaaDoorTie
import Derived.Test.YtijjhjlopfbeiaaDoorCards
import Derived.SevenTiedAt
import Derived.LaidMore
import Derived.Stop.Joined
import Derived.Test.YtijjhjlopfbeiaaDoorLad
import Derived.WalkKit
import Derived.ProofKit
import Derived.OpenShut
import Derived.ShutString
import Derived.ChangeOld
import Derived.Below
import Derived.Carry
import Derived.Test.YtijjhjlopfbeiaaDoorOpn
import Derived.Test.YtijjhjlopfbeiaaDoorPbe
import Derived.BigQuiet
namespace Go.Proofs.YtijjhjlopfbeiaaDoor.purseForms
open Go.ChangeShapes Go.WideShapes Go.ChangeAt Go.RowKit
open Go.ChangeMaps (open_string shut_string)
set_option linter.unusedVariables false

theorem own : ownKnob Tryd.prog.godebug = none := by kernel_rfl
theorem laidOut : laidOutB Tryd.prog = true := by kernel_rfl

open Go.Deep

def five : List Wt := [⟨9, 3, 50⟩, ⟨2, 1, 10⟩, ⟨1, 1, 100⟩, ⟨5, (-4), 7⟩, ⟨6, 9, (-3)⟩]
def buds : List Int := [(-1), 0, 18, 100, 117, 167, 1099511627776]
def tabs : List (List Int) := [[0, 0, 0, 0, 0], [0, 0, 0, 0, 0], [1, 4, 6, 7, 0], [5, 10, 78, 7, 0], [6, 10, 94, 7, 0], [50, 10, 100, 7, 0], [50, 10, 100, 7, 0]]
def turns : List Nat := [3, 2, 1, 0, 4]
def budAt (i : Nat) : Int := buds.getD i 0
def tabAt (i j : Nat) : Int := (tabs.getD i []).getD j 0
theorem five_ord : Pu.Ord (Pu.ofList five) 5 (fun t => turns.getD t 0) := Pu.Ord.of (by decide) (by decide)
set_option maxRecDepth 100000 in
theorem table : ∀ i, i < 7 → ∀ j, j < 5 → Pu.gets (Pu.ofList five) 5 (Pu.bnd (budAt i)) (fun t => turns.getD t 0) j = tabAt i j := by decide +kernel
theorem wants_five (w : World) : WtsAt (w.alloc (.cells #[.int .u32 9, .int .i64 3, .int .i64 50, .int .u32 2, .int .i64 1, .int .i64 10, .int .u32 1, .int .i64 1, .int .i64 100, .int .u32 5, .int .i64 (-4), .int .i64 7, .int .u32 6, .int .i64 9, .int .i64 (-3)] 30)) (some ⟨w.heap.size, 0, none⟩) 5 (Pu.ofList five) := fun _ => ⟨w.heap.size, 0, rfl, fun i hi => by
  have : i = 0 ∨ i = 1 ∨ i = 2 ∨ i = 3 ∨ i = 4 := by omega
  rcases this with rfl | rfl | rfl | rfl | rfl <;> exact ⟨by rw [World.cell?_alloc_at _ _ _ _ rfl]; rfl, by rw [World.cell?_alloc_at _ _ _ _ rfl]; rfl, by rw [World.cell?_alloc_at _ _ _ _ rfl]; rfl⟩⟩
theorem row_ints (w : World) (l : List Int) : ∀ i, i < l.length → (w.alloc (.cells (l.map fun z => Value.int .i64 z).toArray 3)).cell? ⟨w.heap.size, i, none⟩ = some (.int .i64 (l.getD i 0)) := fun i hi => by
  rw [World.cell?_alloc_at _ _ _ _ rfl]
  simp [List.getD, hi]
/-- What the statement lists, in memory. -/
structure Lists (w : World) (A B C : Nat) (blk : Nat → Nat) (W : World) : Prop where
  a : WtsAt W (some ⟨A, 0, none⟩) 5 (Pu.ofList five)
  b : ∀ i, i < 7 → W.cell? ⟨B, i, none⟩ = some (.int .i64 (budAt i))
  c : ∀ i, i < 7 → W.cell? ⟨C, i, none⟩ = some (.slice (some ⟨blk i, 0, none⟩) 5 5)
  d : ∀ i, i < 7 → ∀ j, j < 5 → W.cell? ⟨blk i, j, none⟩ = some (.int .i64 (tabAt i j))
  e : Below w.heap.size w W
  f : Laid W
theorem Lists.grew {w : World} {A B C : Nat} {blk : Nat → Nat} {W W' : World} (h : Lists w A B C blk W) (q : Below W.heap.size W W') : Lists w A B C blk W' :=
  ⟨h.a.grew q, fun i hi => (q.cell (p := ⟨B, i, none⟩) (cell_lt (h.b i hi))).trans (h.b i hi), fun i hi => (q.cell (p := ⟨C, i, none⟩) (cell_lt (h.c i hi))).trans (h.c i hi), fun i hi j hj => (q.cell (p := ⟨blk i, j, none⟩) (cell_lt (h.d i hi j hj))).trans (h.d i hi j hj), h.e.trans (q.mono h.e.size), h.f.grew q⟩

set_option maxRecDepth 100000 in
set_option maxHeartbeats 2000000 in
theorem walk (w : World) (hL : Laid w) :
    Calls Tryd.prog 6 #[] w fun e w' => e = .returned (.bool true) ∧ Below w.heap.size w w' := by
  have hB : Hid (Calls Tryd.prog 8 #[] w fun e w' => e = .returned (.bool true) ∧ Below w.heap.size w w') := begun21 w hL
  have HL : Hid (Laid w) := hL
  clear hL
  go_enter Tryd.func6, Tryd.ntmps6
  go_wp2_with fail
  refine hB.out.mono ?_
  rintro e x0 ⟨rfl, b0⟩
  obtain ⟨N0, n0⟩ : ∃ N, x0.heap.size = N := ⟨_, rfl⟩
  obtain ⟨x1, e1⟩ : ∃ x, x0.alloc (.cells #[.int .u32 9, .int .i64 3, .int .i64 50, .int .u32 2, .int .i64 1, .int .i64 10, .int .u32 1, .int .i64 1, .int .i64 100, .int .u32 5, .int .i64 (-4), .int .i64 7, .int .u32 6, .int .i64 9, .int .i64 (-3)] 30) = x := ⟨_, rfl⟩
  have b1 : Below x0.heap.size x0 x1 := by rw [← e1]; exact (Below.refl _ _).alloc (Nat.le_refl _) _
  obtain ⟨N1, n1⟩ : ∃ N, x1.heap.size = N := ⟨_, rfl⟩
  obtain ⟨x2, e2⟩ : ∃ x, x1.alloc (.cells #[.int .i64 (-1), .int .i64 0, .int .i64 18, .int .i64 100, .int .i64 117, .int .i64 167, .int .i64 1099511627776] 3) = x := ⟨_, rfl⟩
  have b2 : Below x1.heap.size x1 x2 := by rw [← e2]; exact (Below.refl _ _).alloc (Nat.le_refl _) _
  obtain ⟨N2, n2⟩ : ∃ N, x2.heap.size = N := ⟨_, rfl⟩
  obtain ⟨x3, e3⟩ : ∃ x, x2.alloc (.cells #[.int .i64 0, .int .i64 0, .int .i64 0, .int .i64 0, .int .i64 0] 3) = x := ⟨_, rfl⟩
  have b3 : Below x2.heap.size x2 x3 := by rw [← e3]; exact (Below.refl _ _).alloc (Nat.le_refl _) _
  obtain ⟨N3, n3⟩ : ∃ N, x3.heap.size = N := ⟨_, rfl⟩
  obtain ⟨x4, e4⟩ : ∃ x, x3.alloc (.cells #[.int .i64 0, .int .i64 0, .int .i64 0, .int .i64 0, .int .i64 0] 3) = x := ⟨_, rfl⟩
  have b4 : Below x3.heap.size x3 x4 := by rw [← e4]; exact (Below.refl _ _).alloc (Nat.le_refl _) _
  obtain ⟨N4, n4⟩ : ∃ N, x4.heap.size = N := ⟨_, rfl⟩
  obtain ⟨x5, e5⟩ : ∃ x, x4.alloc (.cells #[.int .i64 1, .int .i64 4, .int .i64 6, .int .i64 7, .int .i64 0] 3) = x := ⟨_, rfl⟩
  have b5 : Below x4.heap.size x4 x5 := by rw [← e5]; exact (Below.refl _ _).alloc (Nat.le_refl _) _
  obtain ⟨N5, n5⟩ : ∃ N, x5.heap.size = N := ⟨_, rfl⟩
  obtain ⟨x6, e6⟩ : ∃ x, x5.alloc (.cells #[.int .i64 5, .int .i64 10, .int .i64 78, .int .i64 7, .int .i64 0] 3) = x := ⟨_, rfl⟩
  have b6 : Below x5.heap.size x5 x6 := by rw [← e6]; exact (Below.refl _ _).alloc (Nat.le_refl _) _
  obtain ⟨N6, n6⟩ : ∃ N, x6.heap.size = N := ⟨_, rfl⟩
  obtain ⟨x7, e7⟩ : ∃ x, x6.alloc (.cells #[.int .i64 6, .int .i64 10, .int .i64 94, .int .i64 7, .int .i64 0] 3) = x := ⟨_, rfl⟩
  have b7 : Below x6.heap.size x6 x7 := by rw [← e7]; exact (Below.refl _ _).alloc (Nat.le_refl _) _
  obtain ⟨N7, n7⟩ : ∃ N, x7.heap.size = N := ⟨_, rfl⟩
  obtain ⟨x8, e8⟩ : ∃ x, x7.alloc (.cells #[.int .i64 50, .int .i64 10, .int .i64 100, .int .i64 7, .int .i64 0] 3) = x := ⟨_, rfl⟩
  have b8 : Below x7.heap.size x7 x8 := by rw [← e8]; exact (Below.refl _ _).alloc (Nat.le_refl _) _
  obtain ⟨N8, n8⟩ : ∃ N, x8.heap.size = N := ⟨_, rfl⟩
  obtain ⟨x9, e9⟩ : ∃ x, x8.alloc (.cells #[.int .i64 50, .int .i64 10, .int .i64 100, .int .i64 7, .int .i64 0] 3) = x := ⟨_, rfl⟩
  have b9 : Below x8.heap.size x8 x9 := by rw [← e9]; exact (Below.refl _ _).alloc (Nat.le_refl _) _
  obtain ⟨N9, n9⟩ : ∃ N, x9.heap.size = N := ⟨_, rfl⟩
  obtain ⟨x10, e10⟩ : ∃ x, x9.alloc (.cells #[.slice (some ⟨N2, 0, none⟩) 5 5, .slice (some ⟨N3, 0, none⟩) 5 5, .slice (some ⟨N4, 0, none⟩) 5 5, .slice (some ⟨N5, 0, none⟩) 5 5, .slice (some ⟨N6, 0, none⟩) 5 5, .slice (some ⟨N7, 0, none⟩) 5 5, .slice (some ⟨N8, 0, none⟩) 5 5] 24) = x := ⟨_, rfl⟩
  have b10 : Below x9.heap.size x9 x10 := by rw [← e10]; exact (Below.refl _ _).alloc (Nat.le_refl _) _
  have t10 : Below x10.heap.size x10 x10 := Below.refl _ _
  have t9 : Below x9.heap.size x9 x10 := b10.trans (t10.mono b10.size)
  have t8 : Below x8.heap.size x8 x10 := b9.trans (t9.mono b9.size)
  have t7 : Below x7.heap.size x7 x10 := b8.trans (t8.mono b8.size)
  have t6 : Below x6.heap.size x6 x10 := b7.trans (t7.mono b7.size)
  have t5 : Below x5.heap.size x5 x10 := b6.trans (t6.mono b6.size)
  have t4 : Below x4.heap.size x4 x10 := b5.trans (t5.mono b5.size)
  have t3 : Below x3.heap.size x3 x10 := b4.trans (t4.mono b4.size)
  have t2 : Below x2.heap.size x2 x10 := b3.trans (t3.mono b3.size)
  have t1 : Below x1.heap.size x1 x10 := b2.trans (t2.mono b2.size)
  have t0 : Below x0.heap.size x0 x10 := b1.trans (t1.mono b1.size)
  have HX : Hid (Lists w N0 N1 N9 (fun i => [N2, N3, N4, N5, N6, N7, N8].getD i 0) x10) := by
    refine ⟨?_, ?_, ?_, ?_, b0.trans (t0.mono b0.size), (HL.out.grew b0).grew t0⟩
    · have h : WtsAt x1 (some ⟨N0, 0, none⟩) 5 (Pu.ofList five) := by rw [← e1, ← n0]; exact wants_five x0
      exact h.grew t1
    · intro i hi
      have h : x2.cell? ⟨N1, i, none⟩ = some (.int .i64 (budAt i)) := by rw [← e2, ← n1]; exact row_ints x1 buds i hi
      exact (t2.cell (p := ⟨N1, i, none⟩) (cell_lt h)).trans h
    · intro i hi
      rw [← e10, ← n9, World.cell?_alloc_at _ _ _ _ rfl]
      have : i = 0 ∨ i = 1 ∨ i = 2 ∨ i = 3 ∨ i = 4 ∨ i = 5 ∨ i = 6 := by omega
      rcases this with rfl | rfl | rfl | rfl | rfl | rfl | rfl <;> rfl
    · intro i hi j hj
      have : i = 0 ∨ i = 1 ∨ i = 2 ∨ i = 3 ∨ i = 4 ∨ i = 5 ∨ i = 6 := by omega
      rcases this with rfl | rfl | rfl | rfl | rfl | rfl | rfl
      · have h : x3.cell? ⟨N2, j, none⟩ = some (.int .i64 (tabAt 0 j)) := by rw [← e3, ← n2]; exact row_ints x2 [0, 0, 0, 0, 0] j hj
        exact (t3.cell (p := ⟨N2, j, none⟩) (cell_lt h)).trans h
      · have h : x4.cell? ⟨N3, j, none⟩ = some (.int .i64 (tabAt 1 j)) := by rw [← e4, ← n3]; exact row_ints x3 [0, 0, 0, 0, 0] j hj
        exact (t4.cell (p := ⟨N3, j, none⟩) (cell_lt h)).trans h
      · have h : x5.cell? ⟨N4, j, none⟩ = some (.int .i64 (tabAt 2 j)) := by rw [← e5, ← n4]; exact row_ints x4 [1, 4, 6, 7, 0] j hj
        exact (t5.cell (p := ⟨N4, j, none⟩) (cell_lt h)).trans h
      · have h : x6.cell? ⟨N5, j, none⟩ = some (.int .i64 (tabAt 3 j)) := by rw [← e6, ← n5]; exact row_ints x5 [5, 10, 78, 7, 0] j hj
        exact (t6.cell (p := ⟨N5, j, none⟩) (cell_lt h)).trans h
      · have h : x7.cell? ⟨N6, j, none⟩ = some (.int .i64 (tabAt 4 j)) := by rw [← e7, ← n6]; exact row_ints x6 [6, 10, 94, 7, 0] j hj
        exact (t7.cell (p := ⟨N6, j, none⟩) (cell_lt h)).trans h
      · have h : x8.cell? ⟨N7, j, none⟩ = some (.int .i64 (tabAt 5 j)) := by rw [← e8, ← n7]; exact row_ints x7 [50, 10, 100, 7, 0] j hj
        exact (t8.cell (p := ⟨N7, j, none⟩) (cell_lt h)).trans h
      · have h : x9.cell? ⟨N8, j, none⟩ = some (.int .i64 (tabAt 6 j)) := by rw [← e9, ← n8]; exact row_ints x8 [50, 10, 100, 7, 0] j hj
        exact (t9.cell (p := ⟨N8, j, none⟩) (cell_lt h)).trans h
  clear hB b0 b1 t0 b2 t1 b3 t2 b4 t3 b5 t4 b6 t5 b7 t6 b8 t7 b9 t8 b10 t9 t10
  go_wp2_with fail
  generalize (fun i => [N2, N3, N4, N5, N6, N7, N8].getD i 0) = blk at *
  clear e1 n0 e2 n1 e3 n2 e4 n3 e5 n4 e6 n5 e7 n6 e8 n7 e9 n8 e10 n9
  go_loopw [4] (fun i wr => ∃ p : Nat, p ≤ 7 ∧ i = .int .i64 (p : Int) ∧ Hid (Lists w N0 N1 N9 blk wr)) (fun i _ => 7 - (intOf i).toNat)
  case atStart => exact ⟨0, Nat.zero_le _, rfl, HX⟩
  case round =>
    obtain ⟨p, hp, rfl, hx⟩ := hrel
    clear HX
    by_cases h : p < 7
    · have i2 : (p : Int) < 7 := by omega
      have c1 := hx.out.b p h
      have HT : Hid (∀ j, j < 5 → Pu.gets (Pu.ofList five) 5 (Pu.bnd (budAt p)) (fun t => turns.getD t 0) j = tabAt p j) := table p h
      have HC : Hid (Calls Tryd.prog 9 #[.int .i64 (budAt p), .slice (some ⟨N0, 0, none⟩) 5 5] wr fun e w' => ∃ G, e = .returned (.slice (some ⟨G, 0, none⟩) (5 : Nat) (5 : Nat)) ∧ wr.heap.size ≤ G ∧ G < w'.heap.size ∧ IRow w' G 5 (Pu.gets (Pu.ofList five) 5 (Pu.bnd (budAt p)) (fun t => turns.getD t 0)) ∧ Below wr.heap.size wr w') :=
        split_is 5 5 (some ⟨N0, 0, none⟩) (Pu.ofList five) (budAt p) _ wr hx.out.a (by decide) hx.out.f five_ord
      generalize budAt p = bp at *
      go_wp2_with fail
      refine HC.out.mono ?_
      rintro e w2 ⟨G, rfl, h1, h2, h3, h4⟩
      have HG : Hid (∀ j, j < 5 → w2.cell? ⟨G, j, none⟩ = some (.int .i64 (tabAt p j))) := fun j hj => by rw [← HT.out j hj]; exact h3.cell j hj
      have HX2 : Hid (Lists w N0 N1 N9 blk w2) := hx.out.grew h4
      have c2 := HX2.out.c p h
      generalize hb : blk p = bb at *
      have HB2 : Hid (∀ j, j < 5 → w2.cell? ⟨bb, j, none⟩ = some (.int .i64 (tabAt p j))) := fun j hj => by rw [← hb]; exact HX2.out.d p h j hj
      clear h1 h2 h3 h4 HC hx HT hb c1
      go_wp2_with fail
      go_loopw [6] (fun i wr => ∃ r : Nat, r ≤ 5 ∧ i = .int .i64 (r : Int) ∧ Hid (Same w2 wr)) (fun i _ => 5 - (intOf i).toNat)
      case atStart => exact ⟨0, Nat.zero_le _, rfl, Same.refl _⟩
      case round =>
        obtain ⟨r, hr, rfl, hs⟩ := hrel
        by_cases g : r < 5
        · have i3 : (r : Int) < 5 := by omega
          have d1 := (hs.out.cell ⟨G, r, none⟩).trans (HG.out r g)
          have d2 := (hs.out.cell ⟨N9, p, none⟩).trans c2
          have d3 := (hs.out.cell ⟨bb, r, none⟩).trans (HB2.out r g)
          generalize tabAt p r = v at *
          clear c2
          go_wp2_with fail
          go_quiet (fail)
          go_wp2_with fail
          go_roundw
          case rel => exact ⟨r + 1, by omega, by go_num, hs.out.trans ⟨_, rfl⟩⟩
          case measure => simp [intOf]; omega
        · obtain rfl : r = 5 := by omega
          go_wp2_with fail
          go_roundw
          case rel => exact ⟨p + 1, by omega, by go_num, HX2.out.grew (hs.out.below _)⟩
          case measure => simp [intOf]; omega
    · obtain rfl : p = 7 := by omega
      have HE : Hid (Below w.heap.size w wr) := hx.out.e
      clear hx
      go_wp2
      go_ret
      exact ⟨rfl, HE.out⟩

/-- The heap that the start leaves meets the row's condition. -/
theorem door_met (os : Os) (args : Array Value) : laidMetH Tryd.prog Rows.purseFormsRow.laid ((World.doorLaid Tryd.prog 14 os).forCall (fun _ _ => 0) ⟨#[], args, []⟩).memory :=
  laidMetH_of_parts3 (fuel := 8) (laidMet_of_run' 8 (by kernel_rfl) (by kernel_rfl)) (by kernel_rfl) (by kernel_rfl)

set_option maxRecDepth 100000 in
theorem lifted (os : Os) (started : os.Started) (H : Type) (enc : TypeId × Value → H) :
    ReturnsInHanded {} Tryd.checked os 6 .any (fun w args => (Rows.purseFormsSpec.pre enc Tryd.prog Tryd.f6 [] false w args ∧ laidMetH Tryd.prog Rows.purseFormsRow.laid w) ∧ sizedMet enc Tryd.prog Tryd.f6 (OpenSpec.ofChange Rows.purseFormsSpec) false w args)
      (Rows.purseFormsSpec.post enc Tryd.prog Tryd.f6 false true false false) := by
  refine returnsInHanded_of_change_and (C := Tryd.checked) (X := fun w _ => laidMetH Tryd.prog Rows.purseFormsRow.laid w) (fun _ _ _ hh h => h.of_heap hh) own started (by kernel_rfl) Tryd.func6
    (ChangeSpec.witness_shaped (enc := enc) (C := Tryd.checked) (os := os) (X := fun w _ => laidMetH Tryd.prog Rows.purseFormsRow.laid w) false (World.doorLaid Tryd.prog 14 os) #[] 8 rfl (World.shaped_of_RefB (by kernel_rfl) (by kernel_rfl)) (by kernel_rfl) (by kernel_rfl) (by kernel_rfl) (door_met os _)) ?_
  intro W base args ds gs before hval0 hW _ _ hL _
  rw [MakeChecks.laidMetH_plain _ _ _ (by kernel_rfl)] at hL
  have hLaid : Laid W := Laid.find (by kernel_rfl) (by kernel_rfl) Tryd.underlying54 Tryd.underlying3 (by kernel_rfl) (by kernel_rfl) hL
  have hval : ∀ (j : Nat) t v, Tryd.f6.params[j]? = some t → args[j]? = some v → Value.okWide Tryd.prog W .any base t v := hval0
  have hW' := hW
  obtain ⟨p, q, hA0, hV, rfl, hfz, hnd⟩ := hW
  have hA : DataW.TrodAll enc Tryd.prog W 0 (fun _ => true) true Tryd.f6.params.toList args.toList ds p := hA0
  rw [Tryd.params6] at hA hval
  obtain ⟨hargs, rfl, rfl⟩ := trodAll_nil hA
  obtain rfl : args = #[] := by cases args; simp_all
  obtain ⟨rfl, rfl⟩ := trodVars_none hV
  clear hA0 hval0
  refine (walk W hLaid).mono fun e W' ⟨he, bel⟩ => ?_
  subst he
  exact ⟨_, rfl, _, _, _, [], _, [], hW', trodAll_mk1 (shut_bool Tryd.underlying4 _), trodAll_mk0, rfl, bel.frame _, fun h => by cases h⟩

theorem over : Rows.purseFormsRow.holds Tryd.pinned (OpenSpec.ofChange Rows.purseFormsSpec) :=
  OpenClaim.holds_of_wide 6 Tryd.f6 rfl rfl rfl rfl rfl rfl rfl ⟨rfl, rfl, rfl, rfl, rfl⟩ rfl rfl rfl rfl rfl (by kernel_rfl) Tryd.func6 (by kernel_rfl)
    (of_decide_eq_true (by kernel_rfl)) (by unfold Func.isWrapper; first | (rw [if_pos (by decide +kernel)]; kernel_rfl) | (rw [if_neg (by decide +kernel)]; exact ⟨rfl, rfl⟩))
    (fun os started H enc _ => lifted os started H enc)

theorem card : Rows.PurseFormsCardSaid :=
  Claim7.holds_tied_plain_at .later [] [.data] true (true, "cc2e516006adc4ce4c94ac1e4352fb3ed5575d3a1732d1bd05b0ac818ef63213") false
    over (fun _ h => by cases h) (by kernel_rfl) (fun _ h => by cases h) purseForms_row_tie rfl ⟨rfl, rfl⟩ (by kernel_rfl) rfl
    (fun f fn hf hfn => by
      obtain rfl : f = 6 := Option.some.inj ((show Tryd.prog.funcNamed Rows.purseFormsRow.func = some 6 by kernel_rfl).symm.trans hf) |>.symm
      obtain rfl : fn = Tryd.f6 := (Option.some.inj (Tryd.func6.symm.trans hfn)).symm
      exact ⟨by kernel_rfl, fun j t ht => by
        rw [Tryd.params6] at ht
        simp at ht⟩)
    (by kernel_rfl)
end Go.Proofs.YtijjhjlopfbeiaaDoor.purseForms
namespace Go.Proofs.YtijjhjlopfbeiaaDoor
theorem purseForms_holds : Rows.PurseFormsCardSaid := purseForms.card
#print axioms purseForms_holds
end Go.Proofs.YtijjhjlopfbeiaaDoor

/-
  Some ranks, by hand: the call returns true.
-/
import Derived.Test.YtmbpfdnadjemcaaRows
import Derived.WalkKit
import Derived.ProofKit
import Derived.OpenShut
import Derived.ShutString
import Derived.Test.YtmbpfdnadjemcaaRbg
import Derived.Deep.RegionHeld
import Derived.ChangeOld
import Derived.Below
namespace Go.Proofs.Ytmbpfdnadjemcaa.rankForms
open Go.ChangeShapes Go.WideShapes Go.ChangeAt Go.RowKit
open Go.ChangeMaps (open_string shut_string)
set_option linter.unusedVariables false      -- a walk need not use every 'w<i>' (that an integer argument fits its kind)

theorem own : ownKnob Try.prog.godebug = none := by kernel_rfl

open Go.Deep

def fK (G0 G1 G2 : Nat) : Nat → Fr
  | 0 => ⟨2, 1, none, 0, 0, 0, 0, 0⟩
  | 1 => ⟨3, 2, some ⟨G0, 0, none⟩, 1, 1, 0, 0, 0⟩
  | 2 => ⟨5, 3, some ⟨G1, 0, none⟩, 2, 2, 0, 0, 0⟩
  | 3 => ⟨6, 3, some ⟨G2, 0, none⟩, 1, 1, 0, 0, 0⟩
  | 4 => ⟨7, 9, none, 0, 0, 0, 0, 0⟩
  | _ => ⟨3, 1, none, 0, 0, 0, 0, 0⟩
def fR : Nat → Nat → Int
  | 1, _ => 2
  | 2, 0 => 2
  | 2, _ => 3
  | _, _ => 5
def idv : Nat → Int
  | 0 => 2
  | 1 => 3
  | 2 => 5
  | 3 => 6
  | 4 => 7
  | _ => 8
def wv : Nat → Int
  | 0 => 0
  | 1 => 1
  | 2 => 2
  | 3 => 3
  | 4 => -1
  | _ => -1
def av : Nat → Int
  | 0 => 0
  | 1 => 1
  | 2 => 2
  | 3 => 3
  | 4 => 0
  | _ => 0
def bv : Nat → Bool
  | 0 => true
  | 1 => true
  | 2 => true
  | 3 => true
  | 4 => false
  | _ => false
def wt : Nat → Wt
  | 0 => ⟨1, 1, 9⟩
  | 1 => ⟨2, 1, 0⟩
  | 2 => ⟨1, 2, 0⟩
  | _ => ⟨1, 1, 0⟩
theorem f_rank (G0 G1 G2 : Nat) : ∀ k, k < 6 → rk 6 (fK G0 G1 G2) fR (idv k) = (av k, bv k)
  | 0, _ => by kernel_rfl
  | 1, _ => by kernel_rfl
  | 2, _ => by kernel_rfl
  | 3, _ => by kernel_rfl
  | 4, _ => by kernel_rfl
  | 5, _ => by kernel_rfl
  | k + 6, h => absurd h (by omega)
theorem f_want : ∀ k, k < 6 → (bv k = true ∧ wv k = av k ∧ 0 ≤ av k) ∨ (bv k = false ∧ wv k = -1 ∧ av k = 0)
  | 0, _ => by left; decide
  | 1, _ => by left; decide
  | 2, _ => by left; decide
  | 3, _ => by left; decide
  | 4, _ => by right; decide
  | 5, _ => by right; decide
  | k + 6, h => absurd h (by omega)
theorem six {k : Nat} (h : k < 6) : k = 0 ∨ k = 1 ∨ k = 2 ∨ k = 3 ∨ k = 4 ∨ k = 5 := by omega
theorem lits {κ : IntKind} {w w' : World} {cs : Array Value} {T : TypeId} {n : Nat} {x : Nat → Int} (e : w.alloc (.cells cs T) = w') (h : ∀ i, i < n → cs[i]? = some (.int κ (x i))) : ∀ i, i < n → w'.cell? ⟨w.heap.size, i, none⟩ = some (.int κ (x i)) := fun i hi => by
  subst e
  rw [World.cell?_alloc_at _ _ _ _ rfl]; exact h i hi
theorem fR_1 : ∀ i, i < 1 → (#[.int .u32 2] : Array Value)[i]? = some (.int .u32 (fR 1 i))
  | 0, _ => rfl
  | i + 1, h => absurd h (by omega)
theorem fR_2 : ∀ i, i < 2 → (#[.int .u32 2, .int .u32 3] : Array Value)[i]? = some (.int .u32 (fR 2 i))
  | 0, _ => rfl
  | 1, _ => rfl
  | i + 2, h => absurd h (by omega)
theorem fR_3 : ∀ i, i < 1 → (#[.int .u32 5] : Array Value)[i]? = some (.int .u32 (fR 3 i))
  | 0, _ => rfl
  | i + 1, h => absurd h (by omega)
theorem ids_lit : ∀ i, i < 6 → (#[.int .u32 2, .int .u32 3, .int .u32 5, .int .u32 6, .int .u32 7, .int .u32 8] : Array Value)[i]? = some (.int .u32 (idv i))
  | 0, _ => rfl
  | 1, _ => rfl
  | 2, _ => rfl
  | 3, _ => rfl
  | 4, _ => rfl
  | 5, _ => rfl
  | i + 6, h => absurd h (by omega)
theorem want_lit : ∀ i, i < 6 → (#[.int .i64 0, .int .i64 1, .int .i64 2, .int .i64 3, .int .i64 (-1), .int .i64 (-1)] : Array Value)[i]? = some (.int .i64 (wv i))
  | 0, _ => rfl
  | 1, _ => rfl
  | 2, _ => rfl
  | 3, _ => rfl
  | 4, _ => rfl
  | 5, _ => rfl
  | i + 6, h => absurd h (by omega)
theorem nums_of {w : World} {b n : Nat} {x : Nat → Int} (h : ∀ i, i < n → w.cell? ⟨b, i, none⟩ = some (.int .u32 (x i))) : NumsAt .u32 w (some ⟨b, 0, none⟩) n x := fun _ => ⟨b, 0, rfl, fun i hi => by rw [Nat.zero_add]; exact h i hi⟩
theorem f_at (w : World) (G0 G1 G2 : Nat) : FrsAt (w.alloc (.cells #[.int .u32 2, .int .i64 1, .slice none 0 0, .int .i64 0, .int .i64 0, .int .i64 0, .int .u32 3, .int .i64 2, .slice (some ⟨G0, 0, none⟩) 1 1, .int .i64 0, .int .i64 0, .int .i64 0, .int .u32 5, .int .i64 3, .slice (some ⟨G1, 0, none⟩) 2 2, .int .i64 0, .int .i64 0, .int .i64 0, .int .u32 6, .int .i64 3, .slice (some ⟨G2, 0, none⟩) 1 1, .int .i64 0, .int .i64 0, .int .i64 0, .int .u32 7, .int .i64 9, .slice none 0 0, .int .i64 0, .int .i64 0, .int .i64 0, .int .u32 3, .int .i64 1, .slice none 0 0, .int .i64 0, .int .i64 0, .int .i64 0] 26)) (some ⟨w.heap.size, 0, none⟩) 6 (fK G0 G1 G2) := fun _ => ⟨_, 0, rfl, fun i hi => by
  rcases six hi with rfl | rfl | rfl | rfl | rfl | rfl
  all_goals (refine ⟨?_, ?_, ?_, ?_, ?_, ?_⟩ <;> (rw [World.cell?_alloc_at _ _ _ _ rfl]; rfl))⟩
structure WtAt' (w : World) (B o : Nat) (a : Wt) : Prop where
  c0 : w.cell? ⟨B, o, none⟩ = some (.int .u32 a.id)
  c1 : w.cell? ⟨B, o + 1, none⟩ = some (.int .i64 a.r)
  c2 : w.cell? ⟨B, o + 2, none⟩ = some (.int .i64 a.b)
theorem WtAt'.grew {w w' : World} {B o : Nat} {a : Wt} (h : WtAt' w B o a) (hb : Below w.heap.size w w') : WtAt' w' B o a :=
  ⟨(hb.cell (p := ⟨B, o, none⟩) (cell_lt h.c0)).trans h.c0, (hb.cell (p := ⟨B, o + 1, none⟩) (cell_lt h.c1)).trans h.c1, (hb.cell (p := ⟨B, o + 2, none⟩) (cell_lt h.c2)).trans h.c2⟩
/-- Four wants in memory. -/
structure Wants (w : World) (B : Nat) (W : World) : Prop where
  w0 : WtAt' W B 0 (wt 0)
  w1 : WtAt' W B 3 (wt 1)
  w2 : WtAt' W B 6 (wt 2)
  w3 : WtAt' W B 9 (wt 3)
  bel : Below w.heap.size w W
theorem Wants.grew {w W W' : World} {B : Nat} (h : Wants w B W) (hb : Below W.heap.size W W') : Wants w B W' :=
  ⟨h.w0.grew hb, h.w1.grew hb, h.w2.grew hb, h.w3.grew hb, h.bel.trans (hb.mono h.bel.size)⟩
theorem wants_made (w x : World) (h : Below w.heap.size w x) : Wants w x.heap.size (x.alloc (.cells #[.int .u32 1, .int .i64 1, .int .i64 9, .int .u32 2, .int .i64 1, .int .i64 0, .int .u32 1, .int .i64 2, .int .i64 0, .int .u32 1, .int .i64 1, .int .i64 0] 40)) := by
  refine ⟨⟨?_, ?_, ?_⟩, ⟨?_, ?_, ?_⟩, ⟨?_, ?_, ?_⟩, ⟨?_, ?_, ?_⟩, h.trans ((box_below x _).mono h.size)⟩
  all_goals (rw [World.cell?_alloc_at _ _ _ _ rfl]; rfl)

set_option maxRecDepth 100000 in
set_option maxHeartbeats 4000000 in
theorem walk (w : World) : Calls Try.prog 7 #[] w fun e w' => e = .returned (.bool true) ∧ Below w.heap.size w w' := by
  go_enter Try.func7, Try.ntmps7
  go_wp2_with fail
  refine (begun13 _).mono ?_
  rintro e w1 ⟨rfl, d1⟩
  obtain ⟨x0, e0⟩ : ∃ x, w1.alloc (.cells #[.int .u32 2] 23) = x := ⟨_, rfl⟩
  obtain ⟨x1, e1⟩ : ∃ x, x0.alloc (.cells #[.int .u32 2, .int .u32 3] 23) = x := ⟨_, rfl⟩
  obtain ⟨x2, e2⟩ : ∃ x, x1.alloc (.cells #[.int .u32 5] 23) = x := ⟨_, rfl⟩
  obtain ⟨x3, e3⟩ : ∃ x, x2.alloc (.cells #[.int .u32 2, .int .i64 1, .slice none 0 0, .int .i64 0, .int .i64 0, .int .i64 0, .int .u32 3, .int .i64 2, .slice (some ⟨w1.heap.size, 0, none⟩) 1 1, .int .i64 0, .int .i64 0, .int .i64 0, .int .u32 5, .int .i64 3, .slice (some ⟨x0.heap.size, 0, none⟩) 2 2, .int .i64 0, .int .i64 0, .int .i64 0, .int .u32 6, .int .i64 3, .slice (some ⟨x1.heap.size, 0, none⟩) 1 1, .int .i64 0, .int .i64 0, .int .i64 0, .int .u32 7, .int .i64 9, .slice none 0 0, .int .i64 0, .int .i64 0, .int .i64 0, .int .u32 3, .int .i64 1, .slice none 0 0, .int .i64 0, .int .i64 0, .int .i64 0] 26) = x := ⟨_, rfl⟩
  obtain ⟨x4, e4⟩ : ∃ x, x3.alloc (.cells #[.int .u32 2, .int .u32 3, .int .u32 5, .int .u32 6, .int .u32 7, .int .u32 8] 23) = x := ⟨_, rfl⟩
  obtain ⟨x5, e5⟩ : ∃ x, x4.alloc (.cells #[.int .i64 0, .int .i64 1, .int .i64 2, .int .i64 3, .int .i64 (-1), .int .i64 (-1)] 3) = x := ⟨_, rfl⟩
  have B0 : Below w1.heap.size w1 x0 := e0 ▸ box_below w1 _
  have B1 : Below x0.heap.size x0 x1 := e1 ▸ box_below x0 _
  have B2 : Below x1.heap.size x1 x2 := e2 ▸ box_below x1 _
  have B3 : Below x2.heap.size x2 x3 := e3 ▸ box_below x2 _
  have B4 : Below x3.heap.size x3 x4 := e4 ▸ box_below x3 _
  have B5 : Below x4.heap.size x4 x5 := e5 ▸ box_below x4 _
  have B35 := B3.trans ((B4.trans (B5.mono B4.size)).mono B3.size)
  have B25 := B2.trans (B35.mono B2.size)
  have B15 := B1.trans (B25.mono B1.size)
  have HB : Hid (Below w.heap.size w x5) := d1.trans ((B0.trans (B15.mono B0.size)).mono d1.size)
  have N0 : NumsAt .u32 x5 (some ⟨w1.heap.size, 0, none⟩) 1 (fR 1) := (nums_of (lits e0 fR_1)).grew B15
  have N1 : NumsAt .u32 x5 (some ⟨x0.heap.size, 0, none⟩) 2 (fR 2) := (nums_of (lits e1 fR_2)).grew B25
  have N2 : NumsAt .u32 x5 (some ⟨x1.heap.size, 0, none⟩) 1 (fR 3) := (nums_of (lits e2 fR_3)).grew B35
  have HK : Hid (FrsAt x5 (some ⟨x2.heap.size, 0, none⟩) 6 (fK w1.heap.size x0.heap.size x1.heap.size)) := ((e3 ▸ f_at x2 w1.heap.size x0.heap.size x1.heap.size).grew B4).grew B5
  have HR : Hid (RefsAll x5 6 (fK w1.heap.size x0.heap.size x1.heap.size) fR) := fun q hq => by
    rcases six hq with rfl | rfl | rfl | rfl | rfl | rfl
    · exact ⟨fun h => absurd (h : 0 < 0) (Nat.lt_irrefl 0), Nat.le_refl _, (by decide : (0 : Nat) ≤ 1000)⟩
    · exact ⟨N0, Nat.le_refl _, (by decide : (1 : Nat) ≤ 1000)⟩
    · exact ⟨N1, Nat.le_refl _, (by decide : (2 : Nat) ≤ 1000)⟩
    · exact ⟨N2, Nat.le_refl _, (by decide : (1 : Nat) ≤ 1000)⟩
    · exact ⟨fun h => absurd (h : 0 < 0) (Nat.lt_irrefl 0), Nat.le_refl _, (by decide : (0 : Nat) ≤ 1000)⟩
    · exact ⟨fun h => absurd (h : 0 < 0) (Nat.lt_irrefl 0), Nat.le_refl _, (by decide : (0 : Nat) ≤ 1000)⟩
  have I4 : ∀ i, i < 6 → x4.cell? ⟨x3.heap.size, i, none⟩ = some (.int .u32 (idv i)) := lits e4 ids_lit
  have HI : Hid (∀ i, i < 6 → x5.cell? ⟨x3.heap.size, i, none⟩ = some (.int .u32 (idv i))) := fun i hi => (B5.cell (p := ⟨x3.heap.size, i, none⟩) (cell_lt (I4 i hi))).trans (I4 i hi)
  have I5 : ∀ i, i < 6 → x5.cell? ⟨x4.heap.size, i, none⟩ = some (.int .i64 (wv i)) := lits e5 want_lit
  have HW : Hid (∀ i, i < 6 → x5.cell? ⟨x4.heap.size, i, none⟩ = some (.int .i64 (wv i))) := I5
  clear I4 I5
  clear B0 B1 B2 B3 B4 B5 B15 B25 B35 N0 N1 N2 d1
  go_wp2_with fail
  clear e0 e1 e2 e3 e4 e5
  generalize w1.heap.size = G0 at *
  generalize x0.heap.size = G1 at *
  generalize x1.heap.size = G2 at *
  generalize x2.heap.size = G3 at *
  generalize x3.heap.size = G4 at *
  generalize x4.heap.size = G5 at *
  go_loopw [4] (fun i wr => ∃ k : Nat, k ≤ 6 ∧ i = .int .i64 k ∧ Hid (Below x5.heap.size x5 wr)) (fun i _ => 6 - (intOf i).toNat)
  case atStart => exact ⟨0, by decide, rfl, Below.refl _ _⟩
  case round =>
    obtain ⟨k, hk, rfl, hb⟩ := hrel
    by_cases hk6 : k < 6
    · have i1 : (k : Int) < 6 := by omega
      have c1 := (hb.out.cell (p := ⟨G4, k, none⟩) (cell_lt (HI.out k hk6))).trans (HI.out k hk6)
      have HC : Hid (wr.cell? ⟨G5, k, none⟩ = some (.int .i64 (wv k))) := (hb.out.cell (p := ⟨G5, k, none⟩) (cell_lt (HW.out k hk6))).trans (HW.out k hk6)
      have HA : Hid (rk 6 (fK G0 G1 G2) fR (idv k) = (av k, bv k)) := f_rank G0 G1 G2 k hk6
      have HV : Hid ((bv k = true ∧ wv k = av k ∧ 0 ≤ av k) ∨ (bv k = false ∧ wv k = -1 ∧ av k = 0)) := f_want k hk6
      go_wp2_with fail
      refine (rank_is HA.out (by decide) (HK.out.grew hb.out) (HR.out.grew hb.out)).mono ?_
      rintro e w3 ⟨rfl, d3⟩
      have HB3 : Hid (Below x5.heap.size x5 w3) := hb.out.trans (d3.mono hb.out.size)
      have c2 := (d3.cell (p := ⟨G5, k, none⟩) (cell_lt HC.out)).trans HC.out
      have hV := HV.out
      clear c1 d3 hb HA HV HC
      generalize av k = X at *
      generalize bv k = p at *
      generalize wv k = Y at *
      rcases hV with ⟨rfl, rfl, h0⟩ | ⟨rfl, rfl, rfl⟩
      · have h1 : decide (0 ≤ Y) = true := by simpa using h0
        go_wp2_with fail
        go_roundw
        case rel => exact ⟨k + 1, by omega, by go_num, HB3⟩
        case measure => simp [intOf]; omega
      · go_wp2_with fail
        go_roundw
        case rel => exact ⟨k + 1, by omega, by go_num, HB3⟩
        case measure => simp [intOf]; omega
    · have i1 : decide ((k : Int) < 6) = false := by simp; omega
      obtain ⟨x6, e6⟩ : ∃ x, wr.alloc (.cells #[.int .u32 1, .int .i64 1, .int .i64 9, .int .u32 2, .int .i64 1, .int .i64 0, .int .u32 1, .int .i64 2, .int .i64 0, .int .u32 1, .int .i64 1, .int .i64 0] 40) = x := ⟨_, rfl⟩
      have HW6 : Hid (Wants w wr.heap.size x6) := e6 ▸ wants_made w wr (HB.out.trans (hb.out.mono HB.out.size))
      have HD : Hid (Wants w wr.heap.size x6.drew) := HW6.out.grew (Below.refl _ _).drew
      clear HW6 hb
      go_wp2_with fail
      clear e6
      generalize wr.heap.size = N at *
      refine wp_region_held (S := Wants w N) (by kernel_rfl) ?_
      change wpAnyH _ _ _ _ _ _ _ _ x6.drew
      have hr := HD.out
      clear HD
      generalize x6.drew = w2 at *
      refine wpAnyH_take (i := 0) (v := .slice (some ⟨N, 0, none⟩) 4 4) rfl (by kernel_rfl) (by kernel_rfl) (by kernel_rfl) (fun _ _ _ h => h) (Yields.yieldsIf (Or.inl ⟨by kernel_rfl, fun _ => by kernel_rfl⟩)) hr ?_
      refine wpAnyH_take (i := 1) (v := .pointer (some ⟨N, 3, none⟩)) rfl (by kernel_rfl) (by kernel_rfl) (by kernel_rfl) (fun _ _ _ h => h) (Yields.yieldsIf (Or.inl ⟨by kernel_rfl, fun _ => by go_simp⟩)) hr ?_
      refine wpAnyH_take (i := 2) (v := .agg #[.int .u32 2, .int .i64 1, .int .i64 0]) rfl (by kernel_rfl) (by kernel_rfl) (by kernel_rfl) (fun _ _ _ h => h) (Or.inl ⟨by kernel_rfl, fun W hW => by have g0 : W.cell? ⟨N, 3, none⟩ = some (.int .u32 2) := hW.w1.c0; have g1 : W.cell? ⟨N, 4, none⟩ = some (.int .i64 1) := hW.w1.c1; have g2 : W.cell? ⟨N, 5, none⟩ = some (.int .i64 0) := hW.w1.c2; go_simp⟩) hr ?_
      refine wpAnyH_take (i := 3) (v := .slice (some ⟨N, 0, none⟩) 4 4) rfl (by kernel_rfl) (by kernel_rfl) (by kernel_rfl) (fun _ _ _ h => h) (Yields.yieldsIf (Or.inl ⟨by kernel_rfl, fun _ => by kernel_rfl⟩)) hr ?_
      refine wpAnyH_take (i := 4) (v := .pointer (some ⟨N, 0, none⟩)) rfl (by kernel_rfl) (by kernel_rfl) (by kernel_rfl) (fun _ _ _ h => h) (Yields.yieldsIf (Or.inl ⟨by kernel_rfl, fun _ => by go_simp⟩)) hr ?_
      refine wpAnyH_take (i := 5) (v := .agg #[.int .u32 1, .int .i64 1, .int .i64 9]) rfl (by kernel_rfl) (by kernel_rfl) (by kernel_rfl) (fun _ _ _ h => h) (Or.inl ⟨by kernel_rfl, fun W hW => by have g0 : W.cell? ⟨N, 0, none⟩ = some (.int .u32 1) := hW.w0.c0; have g1 : W.cell? ⟨N, 1, none⟩ = some (.int .i64 1) := hW.w0.c1; have g2 : W.cell? ⟨N, 2, none⟩ = some (.int .i64 9) := hW.w0.c2; go_simp⟩) hr ?_
      refine wpAnyH_ready (rs := [6]) (by kernel_rfl) (by simp) ?_
      refine AllReadyH.cons rfl (fun K2 hK2 => ?_) AllReadyH.nil
      go_simp
      refine Calls.mono (worse_is (a := wt 1) (b := wt 0) (B := true) (by kernel_rfl) _) ?_
      rintro e w3 ⟨rfl, d3⟩
      have hr := hr.grew d3
      refine hK2.out _ _ hr (fun hr => ?_)
      clear hK2 K2 d3
      refine wpAnyH_take (i := 7) (v := .bool true) rfl (by kernel_rfl) (by kernel_rfl) (by kernel_rfl) (fun _ _ _ h => h) (Yields.yieldsIf (Or.inl ⟨by kernel_rfl, fun _ => by kernel_rfl⟩)) hr ?_
      refine wpAnyH_take (i := 8) (v := .slice (some ⟨N, 0, none⟩) 4 4) rfl (by kernel_rfl) (by kernel_rfl) (by kernel_rfl) (fun _ _ _ h => h) (Yields.yieldsIf (Or.inl ⟨by kernel_rfl, fun _ => by kernel_rfl⟩)) hr ?_
      refine wpAnyH_take (i := 9) (v := .pointer (some ⟨N, 0, none⟩)) rfl (by kernel_rfl) (by kernel_rfl) (by kernel_rfl) (fun _ _ _ h => h) (Yields.yieldsIf (Or.inl ⟨by kernel_rfl, fun _ => by go_simp⟩)) hr ?_
      refine wpAnyH_take (i := 10) (v := .agg #[.int .u32 1, .int .i64 1, .int .i64 9]) rfl (by kernel_rfl) (by kernel_rfl) (by kernel_rfl) (fun _ _ _ h => h) (Or.inl ⟨by kernel_rfl, fun W hW => by have g0 : W.cell? ⟨N, 0, none⟩ = some (.int .u32 1) := hW.w0.c0; have g1 : W.cell? ⟨N, 1, none⟩ = some (.int .i64 1) := hW.w0.c1; have g2 : W.cell? ⟨N, 2, none⟩ = some (.int .i64 9) := hW.w0.c2; go_simp⟩) hr ?_
      refine wpAnyH_take (i := 11) (v := .slice (some ⟨N, 0, none⟩) 4 4) rfl (by kernel_rfl) (by kernel_rfl) (by kernel_rfl) (fun _ _ _ h => h) (Yields.yieldsIf (Or.inl ⟨by kernel_rfl, fun _ => by kernel_rfl⟩)) hr ?_
      refine wpAnyH_take (i := 12) (v := .pointer (some ⟨N, 3, none⟩)) rfl (by kernel_rfl) (by kernel_rfl) (by kernel_rfl) (fun _ _ _ h => h) (Yields.yieldsIf (Or.inl ⟨by kernel_rfl, fun _ => by go_simp⟩)) hr ?_
      refine wpAnyH_take (i := 13) (v := .agg #[.int .u32 2, .int .i64 1, .int .i64 0]) rfl (by kernel_rfl) (by kernel_rfl) (by kernel_rfl) (fun _ _ _ h => h) (Or.inl ⟨by kernel_rfl, fun W hW => by have g0 : W.cell? ⟨N, 3, none⟩ = some (.int .u32 2) := hW.w1.c0; have g1 : W.cell? ⟨N, 4, none⟩ = some (.int .i64 1) := hW.w1.c1; have g2 : W.cell? ⟨N, 5, none⟩ = some (.int .i64 0) := hW.w1.c2; go_simp⟩) hr ?_
      refine wpAnyH_ready (rs := [14]) (by kernel_rfl) (by simp) ?_
      refine AllReadyH.cons rfl (fun K2 hK2 => ?_) AllReadyH.nil
      go_simp
      refine Calls.mono (worse_is (a := wt 0) (b := wt 1) (B := false) (by kernel_rfl) _) ?_
      rintro e w4 ⟨rfl, d4⟩
      have hr := hr.grew d4
      refine hK2.out _ _ hr (fun hr => ?_)
      clear hK2 K2 d4
      refine wpAnyH_take (i := 15) (v := .bool true) rfl (by kernel_rfl) (by kernel_rfl) (by kernel_rfl) (fun _ _ _ h => h) (Yields.yieldsIf (Or.inl ⟨by kernel_rfl, fun _ => by kernel_rfl⟩)) hr ?_
      refine wpAnyH_take (i := 16) (v := .bool true) rfl (by kernel_rfl) (by kernel_rfl) (by kernel_rfl) (fun _ _ _ h => h) (Yields.yieldsIf (Or.inl ⟨by kernel_rfl, fun _ => by kernel_rfl⟩)) hr ?_
      refine wpAnyH_take (i := 17) (v := .bool true) rfl (by kernel_rfl) (by kernel_rfl) (by kernel_rfl) (fun _ _ _ h => h) (Yields.yieldsIf (Or.inl ⟨by kernel_rfl, fun _ => by kernel_rfl⟩)) hr ?_
      refine wpAnyH_take (i := 18) (v := .slice (some ⟨N, 0, none⟩) 4 4) rfl (by kernel_rfl) (by kernel_rfl) (by kernel_rfl) (fun _ _ _ h => h) (Yields.yieldsIf (Or.inl ⟨by kernel_rfl, fun _ => by kernel_rfl⟩)) hr ?_
      refine wpAnyH_take (i := 19) (v := .pointer (some ⟨N, 6, none⟩)) rfl (by kernel_rfl) (by kernel_rfl) (by kernel_rfl) (fun _ _ _ h => h) (Yields.yieldsIf (Or.inl ⟨by kernel_rfl, fun _ => by go_simp⟩)) hr ?_
      refine wpAnyH_take (i := 20) (v := .agg #[.int .u32 1, .int .i64 2, .int .i64 0]) rfl (by kernel_rfl) (by kernel_rfl) (by kernel_rfl) (fun _ _ _ h => h) (Or.inl ⟨by kernel_rfl, fun W hW => by have g0 : W.cell? ⟨N, 6, none⟩ = some (.int .u32 1) := hW.w2.c0; have g1 : W.cell? ⟨N, 7, none⟩ = some (.int .i64 2) := hW.w2.c1; have g2 : W.cell? ⟨N, 8, none⟩ = some (.int .i64 0) := hW.w2.c2; go_simp⟩) hr ?_
      refine wpAnyH_take (i := 21) (v := .slice (some ⟨N, 0, none⟩) 4 4) rfl (by kernel_rfl) (by kernel_rfl) (by kernel_rfl) (fun _ _ _ h => h) (Yields.yieldsIf (Or.inl ⟨by kernel_rfl, fun _ => by kernel_rfl⟩)) hr ?_
      refine wpAnyH_take (i := 22) (v := .pointer (some ⟨N, 3, none⟩)) rfl (by kernel_rfl) (by kernel_rfl) (by kernel_rfl) (fun _ _ _ h => h) (Yields.yieldsIf (Or.inl ⟨by kernel_rfl, fun _ => by go_simp⟩)) hr ?_
      refine wpAnyH_take (i := 23) (v := .agg #[.int .u32 2, .int .i64 1, .int .i64 0]) rfl (by kernel_rfl) (by kernel_rfl) (by kernel_rfl) (fun _ _ _ h => h) (Or.inl ⟨by kernel_rfl, fun W hW => by have g0 : W.cell? ⟨N, 3, none⟩ = some (.int .u32 2) := hW.w1.c0; have g1 : W.cell? ⟨N, 4, none⟩ = some (.int .i64 1) := hW.w1.c1; have g2 : W.cell? ⟨N, 5, none⟩ = some (.int .i64 0) := hW.w1.c2; go_simp⟩) hr ?_
      refine wpAnyH_ready (rs := [24]) (by kernel_rfl) (by simp) ?_
      refine AllReadyH.cons rfl (fun K2 hK2 => ?_) AllReadyH.nil
      go_simp
      refine Calls.mono (worse_is (a := wt 2) (b := wt 1) (B := true) (by kernel_rfl) _) ?_
      rintro e w5 ⟨rfl, d5⟩
      have hr := hr.grew d5
      refine hK2.out _ _ hr (fun hr => ?_)
      clear hK2 K2 d5
      refine wpAnyH_take (i := 25) (v := .bool true) rfl (by kernel_rfl) (by kernel_rfl) (by kernel_rfl) (fun _ _ _ h => h) (Yields.yieldsIf (Or.inl ⟨by kernel_rfl, fun _ => by kernel_rfl⟩)) hr ?_
      refine wpAnyH_take (i := 26) (v := .bool true) rfl (by kernel_rfl) (by kernel_rfl) (by kernel_rfl) (fun _ _ _ h => h) (Yields.yieldsIf (Or.inl ⟨by kernel_rfl, fun _ => by kernel_rfl⟩)) hr ?_
      refine wpAnyH_take (i := 27) (v := .slice (some ⟨N, 0, none⟩) 4 4) rfl (by kernel_rfl) (by kernel_rfl) (by kernel_rfl) (fun _ _ _ h => h) (Yields.yieldsIf (Or.inl ⟨by kernel_rfl, fun _ => by kernel_rfl⟩)) hr ?_
      refine wpAnyH_take (i := 28) (v := .pointer (some ⟨N, 3, none⟩)) rfl (by kernel_rfl) (by kernel_rfl) (by kernel_rfl) (fun _ _ _ h => h) (Yields.yieldsIf (Or.inl ⟨by kernel_rfl, fun _ => by go_simp⟩)) hr ?_
      refine wpAnyH_take (i := 29) (v := .agg #[.int .u32 2, .int .i64 1, .int .i64 0]) rfl (by kernel_rfl) (by kernel_rfl) (by kernel_rfl) (fun _ _ _ h => h) (Or.inl ⟨by kernel_rfl, fun W hW => by have g0 : W.cell? ⟨N, 3, none⟩ = some (.int .u32 2) := hW.w1.c0; have g1 : W.cell? ⟨N, 4, none⟩ = some (.int .i64 1) := hW.w1.c1; have g2 : W.cell? ⟨N, 5, none⟩ = some (.int .i64 0) := hW.w1.c2; go_simp⟩) hr ?_
      refine wpAnyH_take (i := 30) (v := .slice (some ⟨N, 0, none⟩) 4 4) rfl (by kernel_rfl) (by kernel_rfl) (by kernel_rfl) (fun _ _ _ h => h) (Yields.yieldsIf (Or.inl ⟨by kernel_rfl, fun _ => by kernel_rfl⟩)) hr ?_
      refine wpAnyH_take (i := 31) (v := .pointer (some ⟨N, 6, none⟩)) rfl (by kernel_rfl) (by kernel_rfl) (by kernel_rfl) (fun _ _ _ h => h) (Yields.yieldsIf (Or.inl ⟨by kernel_rfl, fun _ => by go_simp⟩)) hr ?_
      refine wpAnyH_take (i := 32) (v := .agg #[.int .u32 1, .int .i64 2, .int .i64 0]) rfl (by kernel_rfl) (by kernel_rfl) (by kernel_rfl) (fun _ _ _ h => h) (Or.inl ⟨by kernel_rfl, fun W hW => by have g0 : W.cell? ⟨N, 6, none⟩ = some (.int .u32 1) := hW.w2.c0; have g1 : W.cell? ⟨N, 7, none⟩ = some (.int .i64 2) := hW.w2.c1; have g2 : W.cell? ⟨N, 8, none⟩ = some (.int .i64 0) := hW.w2.c2; go_simp⟩) hr ?_
      refine wpAnyH_ready (rs := [33]) (by kernel_rfl) (by simp) ?_
      refine AllReadyH.cons rfl (fun K2 hK2 => ?_) AllReadyH.nil
      go_simp
      refine Calls.mono (worse_is (a := wt 1) (b := wt 2) (B := false) (by kernel_rfl) _) ?_
      rintro e w6 ⟨rfl, d6⟩
      have hr := hr.grew d6
      refine hK2.out _ _ hr (fun hr => ?_)
      clear hK2 K2 d6
      refine wpAnyH_take (i := 34) (v := .bool true) rfl (by kernel_rfl) (by kernel_rfl) (by kernel_rfl) (fun _ _ _ h => h) (Yields.yieldsIf (Or.inl ⟨by kernel_rfl, fun _ => by kernel_rfl⟩)) hr ?_
      refine wpAnyH_take (i := 35) (v := .bool true) rfl (by kernel_rfl) (by kernel_rfl) (by kernel_rfl) (fun _ _ _ h => h) (Yields.yieldsIf (Or.inl ⟨by kernel_rfl, fun _ => by kernel_rfl⟩)) hr ?_
      refine wpAnyH_take (i := 36) (v := .bool true) rfl (by kernel_rfl) (by kernel_rfl) (by kernel_rfl) (fun _ _ _ h => h) (Yields.yieldsIf (Or.inl ⟨by kernel_rfl, fun _ => by kernel_rfl⟩)) hr ?_
      refine wpAnyH_take (i := 37) (v := .slice (some ⟨N, 0, none⟩) 4 4) rfl (by kernel_rfl) (by kernel_rfl) (by kernel_rfl) (fun _ _ _ h => h) (Yields.yieldsIf (Or.inl ⟨by kernel_rfl, fun _ => by kernel_rfl⟩)) hr ?_
      refine wpAnyH_take (i := 38) (v := .pointer (some ⟨N, 0, none⟩)) rfl (by kernel_rfl) (by kernel_rfl) (by kernel_rfl) (fun _ _ _ h => h) (Yields.yieldsIf (Or.inl ⟨by kernel_rfl, fun _ => by go_simp⟩)) hr ?_
      refine wpAnyH_take (i := 39) (v := .agg #[.int .u32 1, .int .i64 1, .int .i64 9]) rfl (by kernel_rfl) (by kernel_rfl) (by kernel_rfl) (fun _ _ _ h => h) (Or.inl ⟨by kernel_rfl, fun W hW => by have g0 : W.cell? ⟨N, 0, none⟩ = some (.int .u32 1) := hW.w0.c0; have g1 : W.cell? ⟨N, 1, none⟩ = some (.int .i64 1) := hW.w0.c1; have g2 : W.cell? ⟨N, 2, none⟩ = some (.int .i64 9) := hW.w0.c2; go_simp⟩) hr ?_
      refine wpAnyH_take (i := 40) (v := .slice (some ⟨N, 0, none⟩) 4 4) rfl (by kernel_rfl) (by kernel_rfl) (by kernel_rfl) (fun _ _ _ h => h) (Yields.yieldsIf (Or.inl ⟨by kernel_rfl, fun _ => by kernel_rfl⟩)) hr ?_
      refine wpAnyH_take (i := 41) (v := .pointer (some ⟨N, 9, none⟩)) rfl (by kernel_rfl) (by kernel_rfl) (by kernel_rfl) (fun _ _ _ h => h) (Yields.yieldsIf (Or.inl ⟨by kernel_rfl, fun _ => by go_simp⟩)) hr ?_
      refine wpAnyH_take (i := 42) (v := .agg #[.int .u32 1, .int .i64 1, .int .i64 0]) rfl (by kernel_rfl) (by kernel_rfl) (by kernel_rfl) (fun _ _ _ h => h) (Or.inl ⟨by kernel_rfl, fun W hW => by have g0 : W.cell? ⟨N, 9, none⟩ = some (.int .u32 1) := hW.w3.c0; have g1 : W.cell? ⟨N, 10, none⟩ = some (.int .i64 1) := hW.w3.c1; have g2 : W.cell? ⟨N, 11, none⟩ = some (.int .i64 0) := hW.w3.c2; go_simp⟩) hr ?_
      refine wpAnyH_ready (rs := [43]) (by kernel_rfl) (by simp) ?_
      refine AllReadyH.cons rfl (fun K2 hK2 => ?_) AllReadyH.nil
      go_simp
      refine Calls.mono (worse_is (a := wt 0) (b := wt 3) (B := false) (by kernel_rfl) _) ?_
      rintro e w7 ⟨rfl, d7⟩
      have hr := hr.grew d7
      refine hK2.out _ _ hr (fun hr => ?_)
      clear hK2 K2 d7
      refine wpAnyH_take (i := 44) (v := .bool true) rfl (by kernel_rfl) (by kernel_rfl) (by kernel_rfl) (fun _ _ _ h => h) (Yields.yieldsIf (Or.inl ⟨by kernel_rfl, fun _ => by kernel_rfl⟩)) hr ?_
      refine wpAnyH_take (i := 45) (v := .bool true) rfl (by kernel_rfl) (by kernel_rfl) (by kernel_rfl) (fun _ _ _ h => h) (Yields.yieldsIf (Or.inl ⟨by kernel_rfl, fun _ => by kernel_rfl⟩)) hr ?_
      refine wpAnyH_take (i := 46) (v := .bool true) rfl (by kernel_rfl) (by kernel_rfl) (by kernel_rfl) (fun _ _ _ h => h) (Yields.yieldsIf (Or.inl ⟨by kernel_rfl, fun _ => by kernel_rfl⟩)) hr ?_
      refine wpAnyH_take (i := 47) (v := .slice (some ⟨N, 0, none⟩) 4 4) rfl (by kernel_rfl) (by kernel_rfl) (by kernel_rfl) (fun _ _ _ h => h) (Yields.yieldsIf (Or.inl ⟨by kernel_rfl, fun _ => by kernel_rfl⟩)) hr ?_
      refine wpAnyH_take (i := 48) (v := .pointer (some ⟨N, 9, none⟩)) rfl (by kernel_rfl) (by kernel_rfl) (by kernel_rfl) (fun _ _ _ h => h) (Yields.yieldsIf (Or.inl ⟨by kernel_rfl, fun _ => by go_simp⟩)) hr ?_
      refine wpAnyH_take (i := 49) (v := .agg #[.int .u32 1, .int .i64 1, .int .i64 0]) rfl (by kernel_rfl) (by kernel_rfl) (by kernel_rfl) (fun _ _ _ h => h) (Or.inl ⟨by kernel_rfl, fun W hW => by have g0 : W.cell? ⟨N, 9, none⟩ = some (.int .u32 1) := hW.w3.c0; have g1 : W.cell? ⟨N, 10, none⟩ = some (.int .i64 1) := hW.w3.c1; have g2 : W.cell? ⟨N, 11, none⟩ = some (.int .i64 0) := hW.w3.c2; go_simp⟩) hr ?_
      refine wpAnyH_take (i := 50) (v := .slice (some ⟨N, 0, none⟩) 4 4) rfl (by kernel_rfl) (by kernel_rfl) (by kernel_rfl) (fun _ _ _ h => h) (Yields.yieldsIf (Or.inl ⟨by kernel_rfl, fun _ => by kernel_rfl⟩)) hr ?_
      refine wpAnyH_take (i := 51) (v := .pointer (some ⟨N, 0, none⟩)) rfl (by kernel_rfl) (by kernel_rfl) (by kernel_rfl) (fun _ _ _ h => h) (Yields.yieldsIf (Or.inl ⟨by kernel_rfl, fun _ => by go_simp⟩)) hr ?_
      refine wpAnyH_take (i := 52) (v := .agg #[.int .u32 1, .int .i64 1, .int .i64 9]) rfl (by kernel_rfl) (by kernel_rfl) (by kernel_rfl) (fun _ _ _ h => h) (Or.inl ⟨by kernel_rfl, fun W hW => by have g0 : W.cell? ⟨N, 0, none⟩ = some (.int .u32 1) := hW.w0.c0; have g1 : W.cell? ⟨N, 1, none⟩ = some (.int .i64 1) := hW.w0.c1; have g2 : W.cell? ⟨N, 2, none⟩ = some (.int .i64 9) := hW.w0.c2; go_simp⟩) hr ?_
      refine wpAnyH_ready (rs := [53]) (by kernel_rfl) (by simp) ?_
      refine AllReadyH.cons rfl (fun K2 hK2 => ?_) AllReadyH.nil
      go_simp
      refine Calls.mono (worse_is (a := wt 3) (b := wt 0) (B := false) (by kernel_rfl) _) ?_
      rintro e w8 ⟨rfl, d8⟩
      have hr := hr.grew d8
      refine hK2.out _ _ hr (fun hr => ?_)
      clear hK2 K2 d8
      refine wpAnyH_take (i := 54) (v := .bool true) rfl (by kernel_rfl) (by kernel_rfl) (by kernel_rfl) (fun _ _ _ h => h) (Yields.yieldsIf (Or.inl ⟨by kernel_rfl, fun _ => by kernel_rfl⟩)) hr ?_
      refine wpAnyH_take (i := 55) (v := .bool true) rfl (by kernel_rfl) (by kernel_rfl) (by kernel_rfl) (fun _ _ _ h => h) (Yields.yieldsIf (Or.inl ⟨by kernel_rfl, fun _ => by kernel_rfl⟩)) hr ?_
      refine wpAnyH_take (i := 56) (v := .bool true) rfl (by kernel_rfl) (by kernel_rfl) (by kernel_rfl) (fun _ _ _ h => h) (Yields.yieldsIf (Or.inl ⟨by kernel_rfl, fun _ => by kernel_rfl⟩)) hr ?_
      refine wpAnyH_done (by kernel_rfl) ?_ _
      have HE := hr.bel
      clear hr
      go_wp2
      go_ret
      exact ⟨rfl, HE⟩

/-! ### THE ROW's STEP: WRITTEN OUT: LEAVE IT -/
set_option maxRecDepth 100000 in
theorem lifted (os : Os) (started : os.Started) (H : Type) (enc : TypeId × Value → H) :
    ReturnsInHanded {} Try.checked os 7 .any (Rows.rankFormsSpec.pre6 enc Try.prog Try.f7 Rows.rankFormsRow.domain false) (Rows.rankFormsSpec.post enc Try.prog Try.f7 false true false false) := by
  refine returnsInHanded_of_change (C := Try.checked) own started (by kernel_rfl) Try.func7
    (ChangeSpec.witness6 (enc := enc) (C := Try.checked) false ⟨#[], #[], []⟩ 8 (by kernel_rfl) (by kernel_rfl) (by kernel_rfl) (by kernel_rfl)) ?_
  intro W base args ds gs before hval0 hW hcnd _
  have hval : ∀ (j : Nat) t v, Try.f7.params[j]? = some t → args[j]? = some v → Value.okWide Try.prog W .any base t v := hval0
  have hW' := hW
  obtain ⟨p, q, hA0, hV, rfl, hfz, hnd⟩ := hW
  have hA : DataW.TrodAll enc Try.prog W 0 (fun _ => true) true Try.f7.params.toList args.toList ds p := hA0
  rw [Try.params7] at hA hval
  obtain ⟨rfl, rfl, rfl⟩ := trodAll_none hA
  obtain ⟨rfl, rfl⟩ := trodVars_none hV
  clear hA0 hval0
  simp only [List.append_nil] at hW'
  refine (walk  W).mono fun e W' ⟨he, hg⟩ => ?_
  subst he
  exact ⟨_, rfl, _, _, _, [], [], [], hW', (trodAll_cons_mk (shut_bool Try.underlying4 _) trodAll_mk0), rfl, rfl, hg.frame _, fun h => by cases h⟩

theorem over : Rows.rankFormsRow.holds Try.pinned (OpenSpec.ofChange Rows.rankFormsSpec) :=
  OpenClaim.holds_of_wide 7 Try.f7 rfl rfl rfl rfl rfl rfl rfl ⟨rfl, rfl, rfl, rfl, rfl⟩ rfl rfl rfl rfl rfl (by kernel_rfl) Try.func7 (by kernel_rfl)
    (of_decide_eq_true (by kernel_rfl)) (by unfold Func.isWrapper; first | (rw [if_pos (by decide +kernel)]; kernel_rfl) | (rw [if_neg (by decide +kernel)]; exact ⟨rfl, rfl⟩))
    (fun os started H enc _ => lifted os started H enc)

theorem proved : Rows.RankFormsSaid :=
  over
end Go.Proofs.Ytmbpfdnadjemcaa.rankForms
namespace Go.Proofs.Ytmbpfdnadjemcaa
theorem rankForms_holds : Rows.RankFormsSaid := rankForms.proved
#print axioms rankForms_holds
end Go.Proofs.Ytmbpfdnadjemcaa

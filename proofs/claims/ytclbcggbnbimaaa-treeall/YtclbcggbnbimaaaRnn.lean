/-
  Package tree: a walk is followed to its end.
-/
import Derived.Test.YtclbcggbnbimaaaFlw
namespace Go.Proofs.Ytclbcggbnbimaaa
open Go.RowKit Go.Deep

set_option maxRecDepth 100000 in
theorem islice_to (a : Option Addr) (len cap n : Nat) (w : World) (h : n ≤ cap) : (Instr.slice 60 (.slice a len cap) none (some (.int .i64 (n : Int))) none).run Try.prog w = .ok (.slice a n cap) w := by
  have hz : ∀ x : Addr, x.add 0 = x := fun _ => rfl
  have e := run_slice_h (P := Try.prog) w 60 a len cap Try.underlying60 .i64 (n : Int) (by omega) (by omega)
  rw [e]
  simp [sliced, hz]
  have hs : (sizeOf (Try.prog.elem 60)).run Try.prog w = .ok 1 w := by kernel_rfl
  rw [hs]
  rfl
theorem Wk.later {w : World} {Bw Bs m : Nat} {fv lv : Value} {g : Nat → Bool} (h : Wk w Bw Bs m fv lv g) (lv' : Value) : Wk (w.setCell ⟨Bw, 2, none⟩ lv') Bw Bs m fv lv' g :=
  ⟨(World.cell?_setCell_other _ _ _ _ (by simp)).trans h.c0, (World.cell?_setCell_other _ _ _ _ (by simp)).trans h.c1, World.cell?_setCell_same _ _ _ h.c2, fun i => by rw [World.frozen?_setCell]; exact h.frz i, World.rowIs.of_block h.row (Below.heap_setCell w ⟨Bw, 2, none⟩ lv' Bs (fun e => h.ne e.symm)), h.ne⟩
/-- What run leaves. -/
def RunIs (D Bw Bs m : Nat) (E : Nat → Nat → Prop) (fv : Value) (s : Nat) (w w' : World) : Prop :=
  Below D w w' ∧ ∃ (g' : Nat → Bool) (lv : Value), Wk w' Bw Bs m fv lv g' ∧ Dfs E (fun _ => false) s g'
/-- The length of what is to be followed yet. -/
def yet (w : World) (Bw : Nat) : Nat := match w.cell? ⟨Bw, 2, none⟩ with
  | some (.slice _ n _) => n
  | _ => 0
theorem yet_eq {w : World} {Bw n c : Nat} {a : Option Addr} (h : w.cell? ⟨Bw, 2, none⟩ = some (.slice a n c)) : yet w Bw = n := by
  unfold yet
  rw [h]


set_option maxRecDepth 100000 in
set_option maxHeartbeats 1000000 in
theorem run_A (D Bw Bs Bl m s : Nat) (E : Nat → Nat → Prop) (W0 : World) (v : Value) (w : World) (hm : m ≤ 90) (hD : D ≤ Bs) (hDw : D ≤ Bw) (hs : s < m) (HN : Hid (Asked 18 D m E W0 v)) (HE : Hid (∀ p q, E p q → q < m))
    (HW : Hid (Wk w Bw Bs m (.func (.func 18) #[v] #[]) (.slice (some ⟨Bl, 0, none⟩) 1 1) (fun _ => false))) (HL : Hid (w.cell? ⟨Bl, 0, none⟩ = some (.int .i64 (s : Int)))) (HB : Hid (Below D W0 w)) :
    Calls Try.prog 26 #[.pointer (some ⟨Bw, 0, none⟩)] w fun e w' => e = .returned (.tuple #[]) ∧ RunIs D Bw Bs m E (.func (.func 18) #[v] #[]) s w w' := by
  have hl := HW.out.lt
  have Hl : Hid (Bw < w.heap.size ∧ Bs < w.heap.size) := hl
  clear hl
  go_enter Try.func26, Try.ntmps26
  go_wp2_with fail
  go_loopw [3] (fun _ wr => wr = w ∨ Hid (∃ (g' : Nat → Bool) (a : Option Addr), Below D w wr ∧ Wk wr Bw Bs m (.func (.func 18) #[v] #[]) (.slice a 0 1) g' ∧ Dfs E (fun _ => false) s g')) (fun _ wr => yet wr Bw)
  case atStart => exact .inl rfl
  case round =>
    rcases hrel with rfl | hd
    · obtain ⟨c0, c1, c2, hz⟩ := HW.out
      have z2 := hz 2
      have l1 := islice_to (some ⟨Bl, 0, none⟩) 1 1 0
      have c3 := HL.out
      obtain ⟨y0, e0⟩ : ∃ y, wr.setCell ⟨Bw, 2, none⟩ (.slice (some ⟨Bl, 0, none⟩) 0 1) = y := ⟨_, rfl⟩
      have HW0 : Hid (Wk y0 Bw Bs m (.func (.func 18) #[v] #[]) (.slice (some ⟨Bl, 0, none⟩) 0 1) (fun _ => false)) := e0 ▸ HW.out.later _
      have HB0 : Hid (Below D wr y0) := e0 ▸ (Below.refl _ _).setCell (p := ⟨Bw, 2, none⟩) hDw _
      have HBW : Hid (Below D W0 y0) := HB.out.trans HB0.out
      have HY : Hid (yet wr Bw = 1) := yet_eq c2
      have CALL : Hid (Calls Try.prog 28 #[.pointer (some ⟨Bw, 0, none⟩), .int .i64 (s : Int), .int .i64 ((0 : Nat) : Int)] y0 (FollowIs Bs m E (fun _ => false) s y0)) :=
        follow_A D Bw Bs m E W0 v _ hm hD HN HE (m + 1) (fun _ => false) s 0 y0 (Nat.lt_succ_of_le (unm_le _ _)) hs (by have := unm_le (fun _ => false) m; omega) HW0 HBW
      rw [show ((0 : Nat) : Int) = 0 from rfl] at CALL l1
      clear hz HW HL HB HBW
      go_wp2_with fail
      refine CALL.out.mono ?_
      rintro e w2 ⟨rfl, k2, g3, r3, d3⟩
      have HW3 := HW0.out.kept k2 r3
      have HF : Hid (∃ (g' : Nat → Bool) (a : Option Addr), Below D wr w2 ∧ Wk w2 Bw Bs m (.func (.func 18) #[v] #[]) (.slice a 0 1) g' ∧ Dfs E (fun _ => false) s g') :=
        ⟨g3, _, HB0.out.trans (k2.below hD (Nat.le_of_lt (Nat.lt_of_le_of_lt hD HW0.out.lt.2))), HW3, d3⟩
      have HY2 : Hid (yet w2 Bw = 0) := yet_eq HW3.c2
      clear CALL k2 r3 d3 e0 HB0 HW0 HW3 c0 c1 c2 c3 z2
      go_wp2_with fail
      go_roundw
      case rel => exact .inr HF
      case measure => rw [HY.out, HY2.out]; exact Nat.one_pos
    · obtain ⟨g', a, h1, h2, h3⟩ := hd.out
      have HF : Hid (RunIs D Bw Bs m E (.func (.func 18) #[v] #[]) s w wr) := ⟨h1, g', _, h2, h3⟩
      obtain ⟨c0, c1, c2, -⟩ := h2
      clear h1 h3 hd
      go_wp2
      exact bodyPost_end (results_none Try.results26 _ _ _) rfl ⟨rfl, HF.out⟩

set_option maxRecDepth 100000 in
set_option maxHeartbeats 1000000 in
theorem run_B (D Bw Bs Bl m s : Nat) (E : Nat → Nat → Prop) (W0 : World) (v : Value) (w : World) (hm : m ≤ 90) (hD : D ≤ Bs) (hDw : D ≤ Bw) (hs : s < m) (HN : Hid (Asked 22 D m E W0 v)) (HE : Hid (∀ p q, E p q → q < m))
    (HW : Hid (Wk w Bw Bs m (.func (.func 22) #[v] #[]) (.slice (some ⟨Bl, 0, none⟩) 1 1) (fun _ => false))) (HL : Hid (w.cell? ⟨Bl, 0, none⟩ = some (.int .i64 (s : Int)))) (HB : Hid (Below D W0 w)) :
    Calls Try.prog 26 #[.pointer (some ⟨Bw, 0, none⟩)] w fun e w' => e = .returned (.tuple #[]) ∧ RunIs D Bw Bs m E (.func (.func 22) #[v] #[]) s w w' := by
  have hl := HW.out.lt
  have Hl : Hid (Bw < w.heap.size ∧ Bs < w.heap.size) := hl
  clear hl
  go_enter Try.func26, Try.ntmps26
  go_wp2_with fail
  go_loopw [3] (fun _ wr => wr = w ∨ Hid (∃ (g' : Nat → Bool) (a : Option Addr), Below D w wr ∧ Wk wr Bw Bs m (.func (.func 22) #[v] #[]) (.slice a 0 1) g' ∧ Dfs E (fun _ => false) s g')) (fun _ wr => yet wr Bw)
  case atStart => exact .inl rfl
  case round =>
    rcases hrel with rfl | hd
    · obtain ⟨c0, c1, c2, hz⟩ := HW.out
      have z2 := hz 2
      have l1 := islice_to (some ⟨Bl, 0, none⟩) 1 1 0
      have c3 := HL.out
      obtain ⟨y0, e0⟩ : ∃ y, wr.setCell ⟨Bw, 2, none⟩ (.slice (some ⟨Bl, 0, none⟩) 0 1) = y := ⟨_, rfl⟩
      have HW0 : Hid (Wk y0 Bw Bs m (.func (.func 22) #[v] #[]) (.slice (some ⟨Bl, 0, none⟩) 0 1) (fun _ => false)) := e0 ▸ HW.out.later _
      have HB0 : Hid (Below D wr y0) := e0 ▸ (Below.refl _ _).setCell (p := ⟨Bw, 2, none⟩) hDw _
      have HBW : Hid (Below D W0 y0) := HB.out.trans HB0.out
      have HY : Hid (yet wr Bw = 1) := yet_eq c2
      have CALL : Hid (Calls Try.prog 28 #[.pointer (some ⟨Bw, 0, none⟩), .int .i64 (s : Int), .int .i64 ((0 : Nat) : Int)] y0 (FollowIs Bs m E (fun _ => false) s y0)) :=
        follow_B D Bw Bs m E W0 v _ hm hD HN HE (m + 1) (fun _ => false) s 0 y0 (Nat.lt_succ_of_le (unm_le _ _)) hs (by have := unm_le (fun _ => false) m; omega) HW0 HBW
      rw [show ((0 : Nat) : Int) = 0 from rfl] at CALL l1
      clear hz HW HL HB HBW
      go_wp2_with fail
      refine CALL.out.mono ?_
      rintro e w2 ⟨rfl, k2, g3, r3, d3⟩
      have HW3 := HW0.out.kept k2 r3
      have HF : Hid (∃ (g' : Nat → Bool) (a : Option Addr), Below D wr w2 ∧ Wk w2 Bw Bs m (.func (.func 22) #[v] #[]) (.slice a 0 1) g' ∧ Dfs E (fun _ => false) s g') :=
        ⟨g3, _, HB0.out.trans (k2.below hD (Nat.le_of_lt (Nat.lt_of_le_of_lt hD HW0.out.lt.2))), HW3, d3⟩
      have HY2 : Hid (yet w2 Bw = 0) := yet_eq HW3.c2
      clear CALL k2 r3 d3 e0 HB0 HW0 HW3 c0 c1 c2 c3 z2
      go_wp2_with fail
      go_roundw
      case rel => exact .inr HF
      case measure => rw [HY.out, HY2.out]; exact Nat.one_pos
    · obtain ⟨g', a, h1, h2, h3⟩ := hd.out
      have HF : Hid (RunIs D Bw Bs m E (.func (.func 22) #[v] #[]) s w wr) := ⟨h1, g', _, h2, h3⟩
      obtain ⟨c0, c1, c2, -⟩ := h2
      clear h1 h3 hd
      go_wp2
      exact bodyPost_end (results_none Try.results26 _ _ _) rfl ⟨rfl, HF.out⟩
end Go.Proofs.Ytclbcggbnbimaaa

/-
  What the statements on bytes that are handed in lean on: bytes lent with others behind them, and whether both are whole.
-/
import Derived.Test.YthlidbenhlidjaaMem
namespace Go.Proofs.Ythlidbenhlidjaa
open Go.RowKit Go.Deep

def behind : ByteArray := ⟨#[90, 165, 15, 240, 51]⟩
def behindAt (i : Nat) : Nat := ([90, 165, 15, 240, 51] : List Nat).getD i 0
/-- The bytes lent: n of x, and those behind them. -/
def lentOf (x : Nat → Nat) (n i : Nat) : Nat := if i < n then x i else behindAt (i - n)

theorem behindAt_lt (i : Nat) : behindAt i < 256 := by
  by_cases h : i < 5
  · exact (by decide : ∀ i, i < 5 → behindAt i < 256) i h
  · unfold behindAt; rw [List.getD_eq_getElem?_getD, List.getElem?_eq_none (by simp; omega)]; decide

/-- The room behind k rounds of the first loop. -/
def roomA (x : Nat → Nat) (k i : Nat) : Value := .int .u8 ((if i < k then x i else 0 : Nat) : Int)
/-- .. and behind j rounds of the second. -/
def roomB (x : Nat → Nat) (n j i : Nat) : Value := .int .u8 ((if i < n then x i else if i < n + j then behindAt (i - n) else 0 : Nat) : Int)

theorem roomA_step {w : World} {B t K k : Nat} {x : Nat → Nat} (h : w.rowIs B t K (roomA x k)) : (w.setCell ⟨B, k, none⟩ (.int .u8 (x k))).rowIs B t K (roomA x (k + 1)) := by
  refine (h.set k _).congr fun i _ => ?_
  unfold roomA
  by_cases e : i = k
  · subst e; simp
  · by_cases g : i < k
    · simp [e, g, show i < k + 1 by omega]
    · simp [e, g, show ¬ i < k + 1 by omega]
theorem roomA_end {w : World} {B t K n : Nat} {x : Nat → Nat} (h : w.rowIs B t K (roomA x n)) : w.rowIs B t K (roomB x n 0) := by
  refine h.congr fun i _ => ?_
  unfold roomA roomB
  by_cases g : i < n
  · simp [g]
  · simp [g]
theorem roomB_step {w : World} {B t K n j : Nat} {x : Nat → Nat} (h : w.rowIs B t K (roomB x n j)) : (w.setCell ⟨B, n + j, none⟩ (.int .u8 (behindAt j))).rowIs B t K (roomB x n (j + 1)) := by
  refine (h.set (n + j) _).congr fun i _ => ?_
  unfold roomB
  by_cases e : i = n + j
  · subst e; simp [show ¬ n + j < n by omega]
  · by_cases g : i < n
    · simp [e, g]
    · by_cases g2 : i < n + j
      · simp [e, g, g2, show i < n + (j + 1) by omega]
      · simp [e, g, g2, show ¬ i < n + (j + 1) by omega]
set_option maxRecDepth 100000 in
theorem behind_get0 (w : World) : (Instr.index 9 (.string { data := #[90, 165, 15, 240, 51] }) (.int .i64 0)).run Try.prog w = .ok (.int .u8 90) w := by kernel_rfl
set_option maxRecDepth 100000 in
theorem behind_get1 (w : World) : (Instr.index 9 (.string { data := #[90, 165, 15, 240, 51] }) (.int .i64 1)).run Try.prog w = .ok (.int .u8 165) w := by kernel_rfl
set_option maxRecDepth 100000 in
theorem behind_get2 (w : World) : (Instr.index 9 (.string { data := #[90, 165, 15, 240, 51] }) (.int .i64 2)).run Try.prog w = .ok (.int .u8 15) w := by kernel_rfl
set_option maxRecDepth 100000 in
theorem behind_get3 (w : World) : (Instr.index 9 (.string { data := #[90, 165, 15, 240, 51] }) (.int .i64 3)).run Try.prog w = .ok (.int .u8 240) w := by kernel_rfl
set_option maxRecDepth 100000 in
theorem behind_get4 (w : World) : (Instr.index 9 (.string { data := #[90, 165, 15, 240, 51] }) (.int .i64 4)).run Try.prog w = .ok (.int .u8 51) w := by kernel_rfl
theorem behind_get (j : Nat) (h : j < 5) : ∀ w : World, (Instr.index 9 (.string { data := #[90, 165, 15, 240, 51] }) (.int .i64 (j : Int))).run Try.prog w = .ok (.int .u8 (behindAt j)) w := by
  intro w
  match j, h with
  | 0, _ => exact behind_get0 w
  | 1, _ => exact behind_get1 w
  | 2, _ => exact behind_get2 w
  | 3, _ => exact behind_get3 w
  | 4, _ => exact behind_get4 w

set_option maxRecDepth 100000 in
set_option maxHeartbeats 400000 in
theorem lent_any (a : Option Addr) (n c : Nat) (x : Nat → Nat) (w : World) (hx : BytesAt w a n x) (hn : n ≤ 140737488351232) :
    Calls Try.prog 7 #[.slice a n c] w fun e w' => e = .returned (.slice (some ⟨w.heap.size, 0, none⟩) n (n + 5)) ∧ BytesAt w' (some ⟨w.heap.size, 0, none⟩) (n + 5) (lentOf x n) ∧ Below w.heap.size w w' ∧ w'.heap.size = w.heap.size + 1 := by
  have hmk := run_make_row' (P := Try.prog) 26 5 (.int .u8 0) 1 Try.underlying26 Try.infoByte rfl .i64 .i64 (n + 5) (by omega) (by omega)
  rw [show ((n + 5 : Nat) : Int) = (n : Int) + 5 by omega] at hmk
  go_enter Try.func7, Try.ntmps7
  go_wp2_with fail
  clear hmk
  go_loopw [4] (fun i wr => ∃ k : Nat, k ≤ n ∧ i = .int .i64 k ∧ wr.rowIs w.heap.size 5 (n + 5) (roomA x k) ∧ Below w.heap.size w wr ∧ wr.heap.size = w.heap.size + 1) (fun i _ => n - (intOf i).toNat)
  case atStart => exact ⟨0, Nat.zero_le _, rfl, World.rowIs_made w _ (n + 5) _, (Below.refl _ _).alloc (Nat.le_refl _) _, by simp⟩
  case round =>
    obtain ⟨k, hk, rfl, hrow, hb, hs⟩ := hrel
    by_cases hlt : k < n
    · obtain ⟨b1, o1, rfl, cx⟩ := hx.cells (by omega)
      have c1 : wr.cell? ⟨b1, o1 + k, none⟩ = some (.int .u8 (x k)) := (hb.cell (p := ⟨b1, o1 + k, none⟩) (cell_lt (cx k hlt))).trans (cx k hlt)
      obtain ⟨v3, c3⟩ : ∃ v, wr.cell? ⟨w.heap.size, k, none⟩ = some v := ⟨_, hrow.cell (by omega)⟩
      have f3 := hrow.frozen k
      have i1 : (k : Int) < (n : Int) := by omega
      clear cx hx
      go_wp2
      go_roundw
      case rel => exact ⟨k + 1, by omega, by go_num, roomA_step hrow, hb.setCell (Nat.le_refl _) _, by simpa [World.setCell] using hs⟩
      case measure => simp [intOf]; omega
    · have hke : k = n := by omega
      subst hke
      have hrow := roomA_end hrow
      clear hlt hk
      go_wp2_with fail
      go_loopw [5] (fun i wr => ∃ j : Nat, j ≤ 5 ∧ i = .int .i64 j ∧ wr.rowIs w.heap.size 5 (k + 5) (roomB x k j) ∧ Below w.heap.size w wr ∧ wr.heap.size = w.heap.size + 1) (fun i _ => 5 - (intOf i).toNat)
      case atStart => exact ⟨0, Nat.zero_le _, rfl, hrow, hb, hs⟩
      case round =>
        clear hrow hb hs
        obtain ⟨j, hj, rfl, hrow, hb, hs⟩ := hrel
        by_cases hlt : j < 5
        · obtain ⟨v3, c3⟩ : ∃ v, wr.cell? ⟨w.heap.size, k + j, none⟩ = some v := ⟨_, hrow.cell (by omega)⟩
          have f3 := hrow.frozen (k + j)
          have hbg := behind_get j hlt
          have i1 : (j : Int) < 5 := by omega
          go_wp2
          go_roundw
          case rel => exact ⟨j + 1, by omega, by go_num, roomB_step hrow, hb.setCell (Nat.le_refl _) _, by simpa [World.setCell] using hs⟩
          case measure => simp [intOf]; omega
        · have hje : j = 5 := by omega
          subst hje
          have hsl := slice_to (some ⟨w.heap.size, 0, none⟩) (k + 5) (k + 5) k wr (by omega)
          clear hlt hj
          go_wp2
          go_ret
          refine ⟨rfl, ⟨fun _ => ⟨_, 0, rfl, fun i hi => ?_⟩, fun i hi => ?_⟩, hb, hs⟩
          · rw [Nat.zero_add, hrow.cell hi]
            unfold roomB lentOf
            by_cases g : i < k
            · simp [g]
            · simp [g, hi]
          · unfold lentOf
            by_cases g : i < k
            · rw [if_pos g]; exact hx.lt i g
            · rw [if_neg g]; exact behindAt_lt _

set_option maxRecDepth 100000 in
theorem slice_mid (b n c lo hi : Nat) (w : World) (h1 : lo ≤ hi) (h2 : hi ≤ c) : (Instr.slice 26 (.slice (some ⟨b, 0, none⟩) n c) (some (.int .i64 (lo : Int))) (some (.int .i64 (hi : Int))) none).run Try.prog w = .ok (.slice (some (if c = lo then ⟨b, 0, none⟩ else ⟨b, lo, none⟩)) (hi - lo) (c - lo)) w := by
  have e := run_slice_lh (P := Try.prog) w 26 (some ⟨b, 0, none⟩) n c Try.underlying26 .i64 .i64 (lo : Int) (hi : Int) (by omega) (by omega) (by omega)
  rw [e]
  have hs : (sizeOf (Try.prog.elem 26)).run Try.prog w = .ok 1 w := by kernel_rfl
  rw [hs]
  have hz : (⟨b, 0, none⟩ : Addr).add lo = ⟨b, lo, none⟩ := by unfold Addr.add; split <;> simp_all
  simp only [Result.andThen, sliced, Int.toNat_natCast, Nat.mul_one, Option.map_some, hz]
  split <;> rfl

theorem behind_str (x : Nat → Nat) (n : Nat) : strOf 5 (fun i => lentOf x n (n + i)) = ⟨#[90, 165, 15, 240, 51]⟩ := by
  rw [strOf_congr (y := behindAt) (fun i _ => by unfold lentOf; rw [if_neg (by omega), Nat.add_sub_cancel_left])]
  decide +kernel

set_option maxRecDepth 100000 in
set_option maxHeartbeats 400000 in
theorem whole_any (a : Option Addr) (b n c : Nat) (x : Nat → Nat) (w : World) (hl : BytesAt w (some ⟨b, 0, none⟩) (n + 5) (lentOf x n)) (hx : BytesAt w a n x) (hn : n ≤ 140737488351232) :
    Calls Try.prog 11 #[.slice (some ⟨b, 0, none⟩) n (n + 5), .slice a n c] w fun e w' => e = .returned (.bool true) ∧ w' = w := by
  have e1 := conv_bytes _ n (n + 5) _ w (hl.take (m := n) (by omega))
  rw [strOf_congr (y := x) (fun i hi => by unfold lentOf; rw [if_pos hi])] at e1
  have e2 := conv_bytes a n c x w hx
  have e3 := slice_mid b n (n + 5) n (n + 5) w (by omega) (by omega)
  rw [if_neg (by omega), show ((n + 5 : Nat) : Int) = (n : Int) + 5 by omega, Nat.add_sub_cancel_left] at e3
  have hm : BytesAt w (some ⟨b, n, none⟩) 5 (fun i => lentOf x n (n + i)) := by
    refine ⟨fun _ => ⟨b, n, rfl, fun i hi => ?_⟩, fun i hi => hl.lt _ (by omega)⟩
    obtain ⟨b', o', e, hc⟩ := hl.cells (by omega)
    simp at e
    obtain ⟨rfl, rfl⟩ := e
    have := hc (n + i) (by omega)
    rwa [Nat.zero_add] at this
  have e4 := conv_bytes _ 5 5 _ w hm
  rw [behind_str] at e4
  clear hl hx hm
  go_enter Try.func11, Try.ntmps11
  go_wp2
  go_ret
  exact ⟨rfl, rfl⟩
end Go.Proofs.Ythlidbenhlidjaa

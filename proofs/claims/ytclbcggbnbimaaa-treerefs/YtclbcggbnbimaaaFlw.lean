/-
  Package tree: a walk from place to place.
-/
import Derived.Test.YtclbcggbnbimaaaOvr
namespace Go.Proofs.Ytclbcggbnbimaaa
open Go.RowKit Go.Deep

/-- A walk in memory: block Bw holds whom to ask, the row Bs of those that were seen, whom to follow yet. -/
structure Wk (w : World) (Bw Bs m : Nat) (fv lv : Value) (g : Nat → Bool) : Prop where
  c0 : w.cell? ⟨Bw, 0, none⟩ = some fv
  c1 : w.cell? ⟨Bw, 1, none⟩ = some (.slice (some ⟨Bs, 0, none⟩) m m)
  c2 : w.cell? ⟨Bw, 2, none⟩ = some lv
  frz : ∀ i, w.frozen? ⟨Bw, i, none⟩ = false
  row : w.rowIs Bs 4 m (fun i => .bool (g i))
  ne : Bw ≠ Bs
theorem Wk.lt {w : World} {Bw Bs m : Nat} {fv lv : Value} {g : Nat → Bool} (h : Wk w Bw Bs m fv lv g) : Bw < w.heap.size ∧ Bs < w.heap.size := ⟨cell_lt h.c0, World.rowIs.lt h.row⟩
theorem Wk.kept {w w' : World} {Bw Bs m : Nat} {fv lv : Value} {g g' : Nat → Bool} (h : Wk w Bw Bs m fv lv g) (hk : Kept Bs w w') (hr : w'.rowIs Bs 4 m (fun i => .bool (g' i))) : Wk w' Bw Bs m fv lv g' :=
  have e := hk.block Bw h.lt.1 h.ne
  ⟨(World.cell?_of_block (a := ⟨Bw, 0, none⟩) e).trans h.c0, (World.cell?_of_block (a := ⟨Bw, 1, none⟩) e).trans h.c1, (World.cell?_of_block (a := ⟨Bw, 2, none⟩) e).trans h.c2, fun i => (World.frozen?_of_block (a := ⟨Bw, i, none⟩) e).trans (h.frz i), hr, h.ne⟩
theorem Wk.grew {w w' : World} {Bw Bs m : Nat} {fv lv : Value} {g : Nat → Bool} (h : Wk w Bw Bs m fv lv g) (hb : Below w.heap.size w w') : Wk w' Bw Bs m fv lv g :=
  h.kept (Kept.of_below hb) (World.rowIs.of_block h.row (hb.block Bs h.lt.2))
theorem row_mark {w : World} {Bs m : Nat} {g : Nat → Bool} (h : w.rowIs Bs 4 m (fun i => .bool (g i))) (p : Nat) : (w.setCell ⟨Bs, p, none⟩ (.bool true)).rowIs Bs 4 m (fun i => .bool (mark g p i)) :=
  World.rowIs.congr (World.rowIs.set h p (.bool true)) fun q _ => by
    show (if q = p then Value.bool true else .bool (g q)) = .bool (mark g p q)
    unfold mark
    split <;> rfl
theorem Wk.marked {w : World} {Bw Bs m : Nat} {fv lv : Value} {g : Nat → Bool} (h : Wk w Bw Bs m fv lv g) (p : Nat) : Wk (w.setCell ⟨Bs, p, none⟩ (.bool true)) Bw Bs m fv lv (mark g p) :=
  h.kept (Kept.set w p _) (row_mark h.row p)
/-- What follow leaves. -/
def FollowIs (Bs m : Nat) (E : Nat → Nat → Prop) (g : Nat → Bool) (p : Nat) (w : World) (e : Ending) (w' : World) : Prop :=
  e = .returned (.tuple #[]) ∧ Kept Bs w w' ∧ ∃ g' : Nat → Bool, w'.rowIs Bs 4 m (fun i => .bool (g' i)) ∧ Dfs E g p g'
/-- Whom to ask: function F, of what v tells. -/
def Asked (F : Nat) (D m : Nat) (E : Nat → Nat → Prop) (W0 : World) (v : Value) : Prop := ∀ p, p < m → ∀ W, Below D W0 W → Calls Try.prog F #[v, .int .i64 (p : Int)] W (NextTo 1000000 D W E p)


set_option maxRecDepth 100000 in
set_option maxHeartbeats 1000000 in
theorem follow_A (D Bw Bs m : Nat) (E : Nat → Nat → Prop) (W0 : World) (v lv : Value) (_ : m ≤ 90) (hD : D ≤ Bs) (HN : Hid (Asked 18 D m E W0 v)) (HE : Hid (∀ p q, E p q → q < m)) :
    ∀ (u : Nat) (g : Nat → Bool) (p d : Nat) (w : World), unm g m < u → p < m → d + unm g m ≤ 90 → Hid (Wk w Bw Bs m (.func (.func 18) #[v] #[]) lv g) → Hid (Below D W0 w) →
    Calls Try.prog 28 #[.pointer (some ⟨Bw, 0, none⟩), .int .i64 (p : Int), .int .i64 (d : Int)] w (FollowIs Bs m E g p w) := by
  intro u
  induction u with
  | zero => intro g p d w h; exact absurd h (by omega)
  | succ u ih =>
    intro g p d w hu hp hd HW HB
    have IH : Hid (∀ (g : Nat → Bool) (p d : Nat) (w : World), unm g m < u → p < m → d + unm g m ≤ 90 → Hid (Wk w Bw Bs m (.func (.func 18) #[v] #[]) lv g) → Hid (Below D W0 w) →
      Calls Try.prog 28 #[.pointer (some ⟨Bw, 0, none⟩), .int .i64 (p : Int), .int .i64 (d : Int)] w (FollowIs Bs m E g p w)) := ih
    clear ih
    have HU : Hid (unm g m < u + 1 ∧ d + unm g m ≤ 90) := ⟨hu, hd⟩
    have hd90 : d ≤ 90 := by omega
    have j0 : ((d : Int) == 100) = false := by simp; omega
    obtain ⟨c0, c1, c2, -⟩ := HW.out
    clear hu hd
    go_enter Try.func28, Try.ntmps28
    go_wp2_with fail
    refine (HN.out p hp w HB.out).mono ?_
    rintro e w1 ⟨b1, a, n, c, x, rfl, hx, hab, hn, hyes, hall⟩
    have HW1 : Hid (Wk w1 Bw Bs m (.func (.func 18) #[v] #[]) lv g) := HW.out.grew b1
    have HB1 : Hid (Below D W0 w1) := HB.out.trans (b1.mono (Nat.le_of_lt (Nat.lt_of_le_of_lt hD HW.out.lt.2)))
    have HK : Hid (Kept Bs w w1) := Kept.of_below b1
    have HX : Hid (NumsAt .i64 w1 a n (fun j => (x j : Int))) := hx
    have HY : Hid (∀ j, j < n → E p (x j)) := hyes
    have HA : Hid (∀ q, E p q → ∃ j, j < n ∧ x j = q) := hall
    have HAB : Hid (∀ b o, a = some ⟨b, o, none⟩ → b ≠ Bs) := fun b o e h => by
      have := HW.out.lt.2
      rcases hab b o e with h1 | h1 <;> omega
    clear b1 hx hyes hall hab HW HB j0 c0 c1 c2
    go_wp2_with fail
    go_loopw [27] (fun i wr => ∃ (t : Nat) (g1 : Nat → Bool), i = .int .i64 t ∧ t ≤ n ∧ Hid (Kept Bs w1 wr) ∧ Hid (wr.rowIs Bs 4 m (fun i => .bool (g1 i))) ∧ Hid (DfsTo E g p x t g1)) (fun i _ => n - (intOf i).toNat)
    case atStart => exact ⟨0, g, rfl, Nat.zero_le _, Kept.refl _ _, HW1.out.row, DfsTo.nil _ _ _ _⟩
    case round =>
      obtain ⟨t, g1, rfl, ht, hk, hr, hdf⟩ := hrel
      by_cases htn : t < n
      · have i1 : (t : Int) < (n : Int) := by omega
        have HWr := HW1.out.kept hk.out hr.out
        obtain ⟨c0, c1, c2, -⟩ := HWr
        obtain ⟨rb, ro, rfl, hc⟩ := HX.out (by omega)
        have c5 : wr.cell? ⟨rb, ro + t, none⟩ = some (.int .i64 (x t : Int)) := hk.out.cell (hc t htn) (HAB.out rb ro rfl)
        have hxm : x t < m := HE.out _ _ (HY.out t htn)
        have i2 : (x t : Int) < (m : Int) := by omega
        have c6 : wr.cell? ⟨Bs, x t, none⟩ = some (.bool (g1 (x t))) := World.rowIs.cell (i := x t) hr.out hxm
        have EXT : Hid (E p (x t)) := HY.out t htn
        cases e : g1 (x t) with
        | true =>
          have HD : Hid (DfsTo E g p x (t + 1) g1) := hdf.out.skip e
          rw [e] at c6
          clear e hc hdf EXT
          generalize x t = q at *
          go_wp2_with fail
          go_roundw
          case rel => exact ⟨t + 1, g1, by go_num, by omega, hk, hr, HD⟩
          case measure => simp [intOf]; omega
        | false =>
          have z6 := World.rowIs.frozen hr.out (x t)
          have hlt : unm (mark g1 (x t)) m < unm g1 m := unm_lt e (mark_self _ _) m hxm (fun q _ h => mark_old h)
          have hle : unm g1 m ≤ unm g m := unm_mono m (fun q _ h => hdf.out.old q h)
          obtain ⟨y1, e1⟩ : ∃ y, wr.setCell ⟨Bs, x t, none⟩ (.bool true) = y := ⟨_, rfl⟩
          have HW2 : Hid (Wk y1 Bw Bs m (.func (.func 18) #[v] #[]) lv (mark g1 (x t))) := e1 ▸ (HW1.out.kept hk.out hr.out).marked (x t)
          have HK2 : Hid (Kept Bs w1 y1) := e1 ▸ hk.out.trans (Kept.set wr (x t) _)
          have HB2 : Hid (Below D W0 y1) := HB1.out.trans (HK2.out.below hD (Nat.le_of_lt (Nat.lt_of_le_of_lt hD HW1.out.lt.2)))
          have CALL : Hid (Calls Try.prog 28 #[.pointer (some ⟨Bw, 0, none⟩), .int .i64 (x t : Int), .int .i64 ((d + 1 : Nat) : Int)] y1 (FollowIs Bs m E (mark g1 (x t)) (x t) y1)) :=
            IH.out _ _ _ _ (by have := HU.out.1; omega) hxm (by have := HU.out.2; omega) HW2 HB2
          rw [e] at c6
          have ed : ((d + 1 : Nat) : Int) = (d : Int) + 1 := by omega
          rw [ed] at CALL
          clear e hc hlt hle ed HW2 HB2
          have HXT : Hid (∃ q, q = x t) := ⟨_, rfl⟩
          go_wp2_with fail
          refine CALL.out.mono ?_
          rintro e w2 ⟨rfl, k2, g3, r3, d3⟩
          have HD : Hid (DfsTo E g p x (t + 1) g3) := hdf.out.step EXT.out d3
          have HR3 : Hid (w2.rowIs Bs 4 m (fun i => .bool (g3 i))) := r3
          have HK3 : Hid (Kept Bs w1 w2) := HK2.out.trans k2
          clear CALL k2 r3 d3 e1 hdf EXT HK2 hk hr c0 c1 c2 c5 c6 z6
          go_wp2_with fail
          go_roundw
          case rel => exact ⟨t + 1, g3, by go_num, by omega, HK3, HR3, HD⟩
          case measure => simp [intOf]; omega
      · have hte : t = n := by omega
        subst hte
        have i1 : decide ((t : Int) < (t : Int)) = false := by simp
        have HF : Hid (FollowIs Bs m E g p w (.returned (.tuple #[])) wr) := ⟨rfl, HK.out.trans hk.out, g1, hr.out, hdf.out.done HA.out⟩
        go_wp2
        exact bodyPost_end (results_none Try.results28 _ _ _) rfl HF.out

set_option maxRecDepth 100000 in
set_option maxHeartbeats 1000000 in
theorem follow_B (D Bw Bs m : Nat) (E : Nat → Nat → Prop) (W0 : World) (v lv : Value) (_ : m ≤ 90) (hD : D ≤ Bs) (HN : Hid (Asked 22 D m E W0 v)) (HE : Hid (∀ p q, E p q → q < m)) :
    ∀ (u : Nat) (g : Nat → Bool) (p d : Nat) (w : World), unm g m < u → p < m → d + unm g m ≤ 90 → Hid (Wk w Bw Bs m (.func (.func 22) #[v] #[]) lv g) → Hid (Below D W0 w) →
    Calls Try.prog 28 #[.pointer (some ⟨Bw, 0, none⟩), .int .i64 (p : Int), .int .i64 (d : Int)] w (FollowIs Bs m E g p w) := by
  intro u
  induction u with
  | zero => intro g p d w h; exact absurd h (by omega)
  | succ u ih =>
    intro g p d w hu hp hd HW HB
    have IH : Hid (∀ (g : Nat → Bool) (p d : Nat) (w : World), unm g m < u → p < m → d + unm g m ≤ 90 → Hid (Wk w Bw Bs m (.func (.func 22) #[v] #[]) lv g) → Hid (Below D W0 w) →
      Calls Try.prog 28 #[.pointer (some ⟨Bw, 0, none⟩), .int .i64 (p : Int), .int .i64 (d : Int)] w (FollowIs Bs m E g p w)) := ih
    clear ih
    have HU : Hid (unm g m < u + 1 ∧ d + unm g m ≤ 90) := ⟨hu, hd⟩
    have hd90 : d ≤ 90 := by omega
    have j0 : ((d : Int) == 100) = false := by simp; omega
    obtain ⟨c0, c1, c2, -⟩ := HW.out
    clear hu hd
    go_enter Try.func28, Try.ntmps28
    go_wp2_with fail
    refine (HN.out p hp w HB.out).mono ?_
    rintro e w1 ⟨b1, a, n, c, x, rfl, hx, hab, hn, hyes, hall⟩
    have HW1 : Hid (Wk w1 Bw Bs m (.func (.func 22) #[v] #[]) lv g) := HW.out.grew b1
    have HB1 : Hid (Below D W0 w1) := HB.out.trans (b1.mono (Nat.le_of_lt (Nat.lt_of_le_of_lt hD HW.out.lt.2)))
    have HK : Hid (Kept Bs w w1) := Kept.of_below b1
    have HX : Hid (NumsAt .i64 w1 a n (fun j => (x j : Int))) := hx
    have HY : Hid (∀ j, j < n → E p (x j)) := hyes
    have HA : Hid (∀ q, E p q → ∃ j, j < n ∧ x j = q) := hall
    have HAB : Hid (∀ b o, a = some ⟨b, o, none⟩ → b ≠ Bs) := fun b o e h => by
      have := HW.out.lt.2
      rcases hab b o e with h1 | h1 <;> omega
    clear b1 hx hyes hall hab HW HB j0 c0 c1 c2
    go_wp2_with fail
    go_loopw [27] (fun i wr => ∃ (t : Nat) (g1 : Nat → Bool), i = .int .i64 t ∧ t ≤ n ∧ Hid (Kept Bs w1 wr) ∧ Hid (wr.rowIs Bs 4 m (fun i => .bool (g1 i))) ∧ Hid (DfsTo E g p x t g1)) (fun i _ => n - (intOf i).toNat)
    case atStart => exact ⟨0, g, rfl, Nat.zero_le _, Kept.refl _ _, HW1.out.row, DfsTo.nil _ _ _ _⟩
    case round =>
      obtain ⟨t, g1, rfl, ht, hk, hr, hdf⟩ := hrel
      by_cases htn : t < n
      · have i1 : (t : Int) < (n : Int) := by omega
        have HWr := HW1.out.kept hk.out hr.out
        obtain ⟨c0, c1, c2, -⟩ := HWr
        obtain ⟨rb, ro, rfl, hc⟩ := HX.out (by omega)
        have c5 : wr.cell? ⟨rb, ro + t, none⟩ = some (.int .i64 (x t : Int)) := hk.out.cell (hc t htn) (HAB.out rb ro rfl)
        have hxm : x t < m := HE.out _ _ (HY.out t htn)
        have i2 : (x t : Int) < (m : Int) := by omega
        have c6 : wr.cell? ⟨Bs, x t, none⟩ = some (.bool (g1 (x t))) := World.rowIs.cell (i := x t) hr.out hxm
        have EXT : Hid (E p (x t)) := HY.out t htn
        cases e : g1 (x t) with
        | true =>
          have HD : Hid (DfsTo E g p x (t + 1) g1) := hdf.out.skip e
          rw [e] at c6
          clear e hc hdf EXT
          generalize x t = q at *
          go_wp2_with fail
          go_roundw
          case rel => exact ⟨t + 1, g1, by go_num, by omega, hk, hr, HD⟩
          case measure => simp [intOf]; omega
        | false =>
          have z6 := World.rowIs.frozen hr.out (x t)
          have hlt : unm (mark g1 (x t)) m < unm g1 m := unm_lt e (mark_self _ _) m hxm (fun q _ h => mark_old h)
          have hle : unm g1 m ≤ unm g m := unm_mono m (fun q _ h => hdf.out.old q h)
          obtain ⟨y1, e1⟩ : ∃ y, wr.setCell ⟨Bs, x t, none⟩ (.bool true) = y := ⟨_, rfl⟩
          have HW2 : Hid (Wk y1 Bw Bs m (.func (.func 22) #[v] #[]) lv (mark g1 (x t))) := e1 ▸ (HW1.out.kept hk.out hr.out).marked (x t)
          have HK2 : Hid (Kept Bs w1 y1) := e1 ▸ hk.out.trans (Kept.set wr (x t) _)
          have HB2 : Hid (Below D W0 y1) := HB1.out.trans (HK2.out.below hD (Nat.le_of_lt (Nat.lt_of_le_of_lt hD HW1.out.lt.2)))
          have CALL : Hid (Calls Try.prog 28 #[.pointer (some ⟨Bw, 0, none⟩), .int .i64 (x t : Int), .int .i64 ((d + 1 : Nat) : Int)] y1 (FollowIs Bs m E (mark g1 (x t)) (x t) y1)) :=
            IH.out _ _ _ _ (by have := HU.out.1; omega) hxm (by have := HU.out.2; omega) HW2 HB2
          rw [e] at c6
          have ed : ((d + 1 : Nat) : Int) = (d : Int) + 1 := by omega
          rw [ed] at CALL
          clear e hc hlt hle ed HW2 HB2
          have HXT : Hid (∃ q, q = x t) := ⟨_, rfl⟩
          go_wp2_with fail
          refine CALL.out.mono ?_
          rintro e w2 ⟨rfl, k2, g3, r3, d3⟩
          have HD : Hid (DfsTo E g p x (t + 1) g3) := hdf.out.step EXT.out d3
          have HR3 : Hid (w2.rowIs Bs 4 m (fun i => .bool (g3 i))) := r3
          have HK3 : Hid (Kept Bs w1 w2) := HK2.out.trans k2
          clear CALL k2 r3 d3 e1 hdf EXT HK2 hk hr c0 c1 c2 c5 c6 z6
          go_wp2_with fail
          go_roundw
          case rel => exact ⟨t + 1, g3, by go_num, by omega, HK3, HR3, HD⟩
          case measure => simp [intOf]; omega
      · have hte : t = n := by omega
        subst hte
        have i1 : decide ((t : Int) < (t : Int)) = false := by simp
        have HF : Hid (FollowIs Bs m E g p w (.returned (.tuple #[])) wr) := ⟨rfl, HK.out.trans hk.out, g1, hr.out, hdf.out.done HA.out⟩
        go_wp2
        exact bodyPost_end (results_none Try.results28 _ _ _) rfl HF.out
end Go.Proofs.Ytclbcggbnbimaaa

/-
  Contracts of package field's rows: Axpy and Dot.
-/
import Derived.Test.YthlidbenhlidjaaFld
import Derived.Deep.OwnRows
import Derived.Deep.RegionWith
namespace Go.Proofs.Ythlidbenhlidjaa
open Go.RowKit Go.Deep

/-- The sum of the first k products. -/
def dot (x y : Nat → Nat) : Nat → Nat
  | 0 => 0
  | k + 1 => dot x y k ^^^ Gf.mul (x k) (y k)
theorem dot_lt (x y : Nat → Nat) (k : Nat) : dot x y k < 256 := by
  induction k with
  | zero => show 0 < 256; decide
  | succ k ih => exact Gf.xor_lt _ _ ih (Gf.mul_lt _ _)

/-- The row behind k rounds. -/
def addRow (y x : Nat → Nat) (c k : Nat) (i : Nat) : Value := .int .u8 ((if i < k then y i ^^^ Gf.mul c (x i) else 0 : Nat) : Int)

theorem addRow_step {w : World} {B t K k : Nat} {y x : Nat → Nat} {c : Nat} (h : w.rowIs B t K (addRow y x c k)) :
    (w.setCell ⟨B, k, none⟩ (.int .u8 ((y k ^^^ Gf.mul c (x k) : Nat) : Int))).rowIs B t K (addRow y x c (k + 1)) := by
  refine (h.set k _).congr fun i _ => ?_
  unfold addRow
  by_cases e : i = k
  · subst e; simp
  · by_cases g : i < k
    · simp [e, g, show i < k + 1 by omega]
    · simp [e, g, show ¬ i < k + 1 by omega]

set_option maxRecDepth 100000 in
set_option maxHeartbeats 400000 in
theorem add_any (p n m cn cm c : Nat) (a b : Option Addr) (y x : Nat → Nat) (w : World) (h : FieldAt w p) (hy : BytesAt w a n y) (hx : BytesAt w b m x) (hn : n ≤ 140737488351232) (hm : m ≤ 140737488351232) (hc : c < 256) :
    Calls Try.prog 49 #[.slice a n cn, .slice b m cm, .int .u8 c, .func (.func 50) #[.pointer (some ⟨p, 0, none⟩)] #[]] w fun e w' =>
      e = .returned (.slice (some ⟨w.heap.size, 0, none⟩) (min n m) (min n m)) ∧ w'.rowIs w.heap.size 5 (min n m) (addRow y x c (min n m)) ∧ Below w.heap.size w w' ∧ w'.heap.size = w.heap.size + 1 := by
  by_cases hlt : m < n
  · have hmk := run_make_row' (P := Try.prog) 26 5 (.int .u8 0) 1 Try.underlying26 Try.infoByte rfl .i64 .i64 m (by omega) (by omega)
    rw [show min n m = m by omega]
    go_enter Try.func49, Try.ntmps49
    go_wp2_with fail
    clear hmk
    go_loopw [19] (fun i wr => ∃ k : Nat, k ≤ m ∧ i = .int .i64 k ∧ wr.rowIs w.heap.size 5 m (addRow y x c k) ∧ Below w.heap.size w wr ∧ wr.heap.size = w.heap.size + 1) (fun i _ => m - (intOf i).toNat)
    case atStart => exact ⟨0, Nat.zero_le _, rfl, World.rowIs_made w _ m _, (Below.refl _ _).alloc (Nat.le_refl _) _, by simp⟩
    case round =>
      obtain ⟨k, hk, rfl, hrow, hb, hs⟩ := hrel
      by_cases hkm : k < m
      · obtain ⟨b1, o1, rfl, cy⟩ := hy.cells (by omega)
        obtain ⟨b2, o2, rfl, cx⟩ := hx.cells (by omega)
        have c1 : wr.cell? ⟨b1, o1 + k, none⟩ = some (.int .u8 (y k)) := (hb.cell (p := ⟨b1, o1 + k, none⟩) (cell_lt (cy k (by omega)))).trans (cy k (by omega))
        have c2 : wr.cell? ⟨b2, o2 + k, none⟩ = some (.int .u8 (x k)) := (hb.cell (p := ⟨b2, o2 + k, none⟩) (cell_lt (cx k (by omega)))).trans (cx k (by omega))
        obtain ⟨v3, c3⟩ : ∃ v, wr.cell? ⟨w.heap.size, k, none⟩ = some v := ⟨_, hrow.cell hkm⟩
        have f3 := hrow.frozen k
        have hr : FieldAt wr p := h.below hb h.lt
        have l1 := hy.lt k (by omega)
        have l2 := hx.lt k (by omega)
        have l4 := Gf.mul_lt c (x k)
        have HX : Hid (bits .xor .u8 (y k : Int) (Gf.mul c (x k) : Int) = ((y k ^^^ Gf.mul c (x k) : Nat) : Int)) := u8_xor_nat _ _ l1 l4
        have i1 : (k : Int) < (n : Int) := by omega
        have i2 : (k : Int) < (m : Int) := by omega
        obtain ⟨v, hv⟩ : ∃ v, v = y k := ⟨_, rfl⟩
        obtain ⟨u, hu⟩ : ∃ u, u = x k := ⟨_, rfl⟩
        rw [← hv] at c1 l1 HX
        rw [← hu] at c2 l2 l4 HX
        have HV : Hid (v = y k) := hv
        have HU : Hid (u = x k) := hu
        have HR := hrow
        clear cx cy hx hy h hv hu hlt hrow
        go_wp2_with fail
        go_region_with (go_at_call 50; refine (product_any p c u _ ?_ hc l2).mono ?_; (first | exact hr | exact hr.drewN 1 | exact FieldAt.mk hr.powers hr.logs); rintro e w' ⟨rfl, q, rfl⟩)
        all_goals
          go_wp2
          go_roundw
          case rel =>
            refine ⟨k + 1, by omega, by go_num, ?_, ?_, ?_⟩
            · have hv := HV.out
              have hu := HU.out
              subst hv
              subst hu
              rw [HX.out]
              exact addRow_step HR
            · exact (hb.trans (below_drews _)).setCell (Nat.le_refl _) _
            · simpa [World.setCell] using hs
          case measure => simp [intOf]; omega
      · have hke : k = m := by omega
        subst hke
        go_wp2
        go_ret
        exact ⟨rfl, hrow, hb, hs⟩
  · have hmk := run_make_row' (P := Try.prog) 26 5 (.int .u8 0) 1 Try.underlying26 Try.infoByte rfl .i64 .i64 n (by omega) (by omega)
    rw [show min n m = n by omega]
    go_enter Try.func49, Try.ntmps49
    go_wp2_with fail
    clear hmk
    go_loopw [19] (fun i wr => ∃ k : Nat, k ≤ n ∧ i = .int .i64 k ∧ wr.rowIs w.heap.size 5 n (addRow y x c k) ∧ Below w.heap.size w wr ∧ wr.heap.size = w.heap.size + 1) (fun i _ => n - (intOf i).toNat)
    case atStart => exact ⟨0, Nat.zero_le _, rfl, World.rowIs_made w _ n _, (Below.refl _ _).alloc (Nat.le_refl _) _, by simp⟩
    case round =>
      obtain ⟨k, hk, rfl, hrow, hb, hs⟩ := hrel
      by_cases hkm : k < n
      · obtain ⟨b1, o1, rfl, cy⟩ := hy.cells (by omega)
        obtain ⟨b2, o2, rfl, cx⟩ := hx.cells (by omega)
        have c1 : wr.cell? ⟨b1, o1 + k, none⟩ = some (.int .u8 (y k)) := (hb.cell (p := ⟨b1, o1 + k, none⟩) (cell_lt (cy k (by omega)))).trans (cy k (by omega))
        have c2 : wr.cell? ⟨b2, o2 + k, none⟩ = some (.int .u8 (x k)) := (hb.cell (p := ⟨b2, o2 + k, none⟩) (cell_lt (cx k (by omega)))).trans (cx k (by omega))
        obtain ⟨v3, c3⟩ : ∃ v, wr.cell? ⟨w.heap.size, k, none⟩ = some v := ⟨_, hrow.cell hkm⟩
        have f3 := hrow.frozen k
        have hr : FieldAt wr p := h.below hb h.lt
        have l1 := hy.lt k (by omega)
        have l2 := hx.lt k (by omega)
        have l4 := Gf.mul_lt c (x k)
        have HX : Hid (bits .xor .u8 (y k : Int) (Gf.mul c (x k) : Int) = ((y k ^^^ Gf.mul c (x k) : Nat) : Int)) := u8_xor_nat _ _ l1 l4
        have i1 : (k : Int) < (n : Int) := by omega
        have i2 : (k : Int) < (m : Int) := by omega
        obtain ⟨v, hv⟩ : ∃ v, v = y k := ⟨_, rfl⟩
        obtain ⟨u, hu⟩ : ∃ u, u = x k := ⟨_, rfl⟩
        rw [← hv] at c1 l1 HX
        rw [← hu] at c2 l2 l4 HX
        have HV : Hid (v = y k) := hv
        have HU : Hid (u = x k) := hu
        have HR := hrow
        clear cx cy hx hy h hv hu hlt hrow
        go_wp2_with fail
        go_region_with (go_at_call 50; refine (product_any p c u _ ?_ hc l2).mono ?_; (first | exact hr | exact hr.drewN 1 | exact FieldAt.mk hr.powers hr.logs); rintro e w' ⟨rfl, q, rfl⟩)
        all_goals
          go_wp2
          go_roundw
          case rel =>
            refine ⟨k + 1, by omega, by go_num, ?_, ?_, ?_⟩
            · have hv := HV.out
              have hu := HU.out
              subst hv
              subst hu
              rw [HX.out]
              exact addRow_step HR
            · exact (hb.trans (below_drews _)).setCell (Nat.le_refl _) _
            · simpa [World.setCell] using hs
          case measure => simp [intOf]; omega
      · have hke : k = n := by omega
        subst hke
        go_wp2
        go_ret
        exact ⟨rfl, hrow, hb, hs⟩

set_option maxRecDepth 100000 in
set_option maxHeartbeats 400000 in
theorem axpy_any (p n m cn cm c : Nat) (a b : Option Addr) (y x : Nat → Nat) (w : World) (h : FieldAt w p) (hy : BytesAt w a n y) (hx : BytesAt w b m x) (hn : n ≤ 140737488351232) (hm : m ≤ 140737488351232) (hc : c < 256) :
    Calls Try.prog 38 #[.pointer (some ⟨p, 0, none⟩), .slice a n cn, .slice b m cm, .int .u8 c] w fun e w' =>
      e = .returned (.slice (some ⟨w.heap.size, 0, none⟩) (min n m) (min n m)) ∧ w'.rowIs w.heap.size 5 (min n m) (addRow y x c (min n m)) ∧ Below w.heap.size w w' ∧ w'.heap.size = w.heap.size + 1 := by
  go_enter Try.func38, Try.ntmps38
  go_wp2_with (go_at_call 48; refine (made_yes p _ h).mono ?_; rintro e w' ⟨rfl, rfl⟩)
  refine (add_any p n m cn cm c a b y x _ h hy hx hn hm hc).mono ?_
  rintro e w' ⟨rfl, hrow, hb, hs⟩
  go_wp2
  go_ret
  exact ⟨rfl, hrow, hb, hs⟩
end Go.Proofs.Ythlidbenhlidjaa

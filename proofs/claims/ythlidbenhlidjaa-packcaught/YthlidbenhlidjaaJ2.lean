/-
  Several texts, one behind the other.
-/
import Derived.Test.YthlidbenhlidjaaJ1
import Derived.Deep.OwnRows
import Derived.Deep.RegionWith
import Derived.Laws.BytesArg
import Derived.OpenShut
import Derived.Defers
import Derived.Recover
import Derived.Laws.CopyOwn
import Derived.Deep.RegionLaw
/-
  Contracts of package field's rows: Axpy and Dot.
-/
namespace Go.Proofs.Ythlidbenhlidjaa
open Go.RowKit Go.Deep

/-- The sum of the first k products. -/
def dot (x y : Nat → Nat) : Nat → Nat
  | 0 => 0
  | k + 1 => dot x y k ^^^ Gf.mul (x k) (y k)
theorem dot_lt (x y : Nat → Nat) (k : Nat) : dot x y k < 256 := by
  induction k with
  | zero => show 0 < 256; decide
  | succ k ih => exact Gf.xor_lt _ _ ih (Gf.mul_lt _ _)

/-- The row behind k rounds. -/
def addRow (y x : Nat → Nat) (c k : Nat) (i : Nat) : Value := .int .u8 ((if i < k then y i ^^^ Gf.mul c (x i) else 0 : Nat) : Int)

theorem addRow_step {w : World} {B t K k : Nat} {y x : Nat → Nat} {c : Nat} (h : w.rowIs B t K (addRow y x c k)) :
    (w.setCell ⟨B, k, none⟩ (.int .u8 ((y k ^^^ Gf.mul c (x k) : Nat) : Int))).rowIs B t K (addRow y x c (k + 1)) := by
  refine (h.set k _).congr fun i _ => ?_
  unfold addRow
  by_cases e : i = k
  · subst e; simp
  · by_cases g : i < k
    · simp [e, g, show i < k + 1 by omega]
    · simp [e, g, show ¬ i < k + 1 by omega]

set_option maxRecDepth 100000 in
set_option maxHeartbeats 400000 in
theorem add_any (p n m cn cm c : Nat) (a b : Option Addr) (y x : Nat → Nat) (w : World) (h : FieldAt w p) (hy : BytesAt w a n y) (hx : BytesAt w b m x) (hn : n ≤ 140737488351232) (hm : m ≤ 140737488351232) (hc : c < 256) :
    Calls Try.prog 49 #[.slice a n cn, .slice b m cm, .int .u8 c, .func (.func 50) #[.pointer (some ⟨p, 0, none⟩)] #[]] w fun e w' =>
      e = .returned (.slice (some ⟨w.heap.size, 0, none⟩) (min n m) (min n m)) ∧ w'.rowIs w.heap.size 5 (min n m) (addRow y x c (min n m)) ∧ Below w.heap.size w w' ∧ w'.heap.size = w.heap.size + 1 := by
  by_cases hlt : m < n
  · have hmk := run_make_row' (P := Try.prog) 26 5 (.int .u8 0) 1 Try.underlying26 Try.infoByte rfl .i64 .i64 m (by omega) (by omega)
    rw [show min n m = m by omega]
    go_enter Try.func49, Try.ntmps49
    go_wp2_with fail
    clear hmk
    go_loopw [19] (fun i wr => ∃ k : Nat, k ≤ m ∧ i = .int .i64 k ∧ wr.rowIs w.heap.size 5 m (addRow y x c k) ∧ Below w.heap.size w wr ∧ wr.heap.size = w.heap.size + 1) (fun i _ => m - (intOf i).toNat)
    case atStart => exact ⟨0, Nat.zero_le _, rfl, World.rowIs_made w _ m _, (Below.refl _ _).alloc (Nat.le_refl _) _, by simp⟩
    case round =>
      obtain ⟨k, hk, rfl, hrow, hb, hs⟩ := hrel
      by_cases hkm : k < m
      · obtain ⟨b1, o1, rfl, cy⟩ := hy.cells (by omega)
        obtain ⟨b2, o2, rfl, cx⟩ := hx.cells (by omega)
        have c1 : wr.cell? ⟨b1, o1 + k, none⟩ = some (.int .u8 (y k)) := (hb.cell (p := ⟨b1, o1 + k, none⟩) (cell_lt (cy k (by omega)))).trans (cy k (by omega))
        have c2 : wr.cell? ⟨b2, o2 + k, none⟩ = some (.int .u8 (x k)) := (hb.cell (p := ⟨b2, o2 + k, none⟩) (cell_lt (cx k (by omega)))).trans (cx k (by omega))
        obtain ⟨v3, c3⟩ : ∃ v, wr.cell? ⟨w.heap.size, k, none⟩ = some v := ⟨_, hrow.cell hkm⟩
        have f3 := hrow.frozen k
        have hr : FieldAt wr p := h.below hb h.lt
        have l1 := hy.lt k (by omega)
        have l2 := hx.lt k (by omega)
        have l4 := Gf.mul_lt c (x k)
        have HX : Hid (bits .xor .u8 (y k : Int) (Gf.mul c (x k) : Int) = ((y k ^^^ Gf.mul c (x k) : Nat) : Int)) := u8_xor_nat _ _ l1 l4
        have i1 : (k : Int) < (n : Int) := by omega
        have i2 : (k : Int) < (m : Int) := by omega
        obtain ⟨v, hv⟩ : ∃ v, v = y k := ⟨_, rfl⟩
        obtain ⟨u, hu⟩ : ∃ u, u = x k := ⟨_, rfl⟩
        rw [← hv] at c1 l1 HX
        rw [← hu] at c2 l2 l4 HX
        have HV : Hid (v = y k) := hv
        have HU : Hid (u = x k) := hu
        have HR := hrow
        clear cx cy hx hy h hv hu hlt hrow
        go_wp2_with fail
        go_region_with (go_at_call 50; refine (product_any p c u _ ?_ hc l2).mono ?_; (first | exact hr | exact hr.drewN 1 | exact FieldAt.mk hr.powers hr.logs); rintro e w' ⟨rfl, q, rfl⟩)
        all_goals
          go_wp2
          go_roundw
          case rel =>
            refine ⟨k + 1, by omega, by go_num, ?_, ?_, ?_⟩
            · have hv := HV.out
              have hu := HU.out
              subst hv
              subst hu
              rw [HX.out]
              exact addRow_step HR
            · exact (hb.trans (below_drews _)).setCell (Nat.le_refl _) _
            · simpa [World.setCell] using hs
          case measure => simp [intOf]; omega
      · have hke : k = m := by omega
        subst hke
        go_wp2
        go_ret
        exact ⟨rfl, hrow, hb, hs⟩
  · have hmk := run_make_row' (P := Try.prog) 26 5 (.int .u8 0) 1 Try.underlying26 Try.infoByte rfl .i64 .i64 n (by omega) (by omega)
    rw [show min n m = n by omega]
    go_enter Try.func49, Try.ntmps49
    go_wp2_with fail
    clear hmk
    go_loopw [19] (fun i wr => ∃ k : Nat, k ≤ n ∧ i = .int .i64 k ∧ wr.rowIs w.heap.size 5 n (addRow y x c k) ∧ Below w.heap.size w wr ∧ wr.heap.size = w.heap.size + 1) (fun i _ => n - (intOf i).toNat)
    case atStart => exact ⟨0, Nat.zero_le _, rfl, World.rowIs_made w _ n _, (Below.refl _ _).alloc (Nat.le_refl _) _, by simp⟩
    case round =>
      obtain ⟨k, hk, rfl, hrow, hb, hs⟩ := hrel
      by_cases hkm : k < n
      · obtain ⟨b1, o1, rfl, cy⟩ := hy.cells (by omega)
        obtain ⟨b2, o2, rfl, cx⟩ := hx.cells (by omega)
        have c1 : wr.cell? ⟨b1, o1 + k, none⟩ = some (.int .u8 (y k)) := (hb.cell (p := ⟨b1, o1 + k, none⟩) (cell_lt (cy k (by omega)))).trans (cy k (by omega))
        have c2 : wr.cell? ⟨b2, o2 + k, none⟩ = some (.int .u8 (x k)) := (hb.cell (p := ⟨b2, o2 + k, none⟩) (cell_lt (cx k (by omega)))).trans (cx k (by omega))
        obtain ⟨v3, c3⟩ : ∃ v, wr.cell? ⟨w.heap.size, k, none⟩ = some v := ⟨_, hrow.cell hkm⟩
        have f3 := hrow.frozen k
        have hr : FieldAt wr p := h.below hb h.lt
        have l1 := hy.lt k (by omega)
        have l2 := hx.lt k (by omega)
        have l4 := Gf.mul_lt c (x k)
        have HX : Hid (bits .xor .u8 (y k : Int) (Gf.mul c (x k) : Int) = ((y k ^^^ Gf.mul c (x k) : Nat) : Int)) := u8_xor_nat _ _ l1 l4
        have i1 : (k : Int) < (n : Int) := by omega
        have i2 : (k : Int) < (m : Int) := by omega
        obtain ⟨v, hv⟩ : ∃ v, v = y k := ⟨_, rfl⟩
        obtain ⟨u, hu⟩ : ∃ u, u = x k := ⟨_, rfl⟩
        rw [← hv] at c1 l1 HX
        rw [← hu] at c2 l2 l4 HX
        have HV : Hid (v = y k) := hv
        have HU : Hid (u = x k) := hu
        have HR := hrow
        clear cx cy hx hy h hv hu hlt hrow
        go_wp2_with fail
        go_region_with (go_at_call 50; refine (product_any p c u _ ?_ hc l2).mono ?_; (first | exact hr | exact hr.drewN 1 | exact FieldAt.mk hr.powers hr.logs); rintro e w' ⟨rfl, q, rfl⟩)
        all_goals
          go_wp2
          go_roundw
          case rel =>
            refine ⟨k + 1, by omega, by go_num, ?_, ?_, ?_⟩
            · have hv := HV.out
              have hu := HU.out
              subst hv
              subst hu
              rw [HX.out]
              exact addRow_step HR
            · exact (hb.trans (below_drews _)).setCell (Nat.le_refl _) _
            · simpa [World.setCell] using hs
          case measure => simp [intOf]; omega
      · have hke : k = n := by omega
        subst hke
        go_wp2
        go_ret
        exact ⟨rfl, hrow, hb, hs⟩

set_option maxRecDepth 100000 in
set_option maxHeartbeats 400000 in
theorem axpy_any (p n m cn cm c : Nat) (a b : Option Addr) (y x : Nat → Nat) (w : World) (h : FieldAt w p) (hy : BytesAt w a n y) (hx : BytesAt w b m x) (hn : n ≤ 140737488351232) (hm : m ≤ 140737488351232) (hc : c < 256) :
    Calls Try.prog 38 #[.pointer (some ⟨p, 0, none⟩), .slice a n cn, .slice b m cm, .int .u8 c] w fun e w' =>
      e = .returned (.slice (some ⟨w.heap.size, 0, none⟩) (min n m) (min n m)) ∧ w'.rowIs w.heap.size 5 (min n m) (addRow y x c (min n m)) ∧ Below w.heap.size w w' ∧ w'.heap.size = w.heap.size + 1 := by
  go_enter Try.func38, Try.ntmps38
  go_wp2_with (go_at_call 48; refine (made_yes p _ h).mono ?_; rintro e w' ⟨rfl, rfl⟩)
  refine (add_any p n m cn cm c a b y x _ h hy hx hn hm hc).mono ?_
  rintro e w' ⟨rfl, hrow, hb, hs⟩
  go_wp2
  go_ret
  exact ⟨rfl, hrow, hb, hs⟩
end Go.Proofs.Ythlidbenhlidjaa

/-
  That package field has begun: the statements' own look at the field answers true.
-/
namespace Go.Proofs.Ythlidbenhlidjaa
open Go.RowKit Go.Deep

theorem Same.field {w w' : World} {b : Nat} (h : Same w w') (f : FieldAt w b) : FieldAt w' b := by
  obtain ⟨n, rfl⟩ := h; exact f.drewN n
theorem inv_z (b a : Nat) (w : World) (h : FieldAt w b) (h0 : a = 0) :
    Calls Try.prog 41 #[.pointer (some ⟨b, 0, none⟩), .int .u8 a] w fun e w' => e = .returned (.tuple #[.int .u8 0, .bool false]) ∧ w' = w := by
  subst h0
  exact inv_zero b w h
theorem inv_is (b a : Nat) (w : World) (h : FieldAt w b) (ha : a < 256) (h0 : a ≠ 0) :
    Calls Try.prog 41 #[.pointer (some ⟨b, 0, none⟩), .int .u8 a] w fun e w' => e = .returned (.tuple #[.int .u8 (Gf.inv a), .bool true]) ∧ Same w w' :=
  inv_ne b a w h ha h0
theorem inv_at (b : Nat) (x z : Int) (w : World) (h : FieldAt w b) (hx : 0 ≤ x ∧ x < 256) (h0 : x ≠ 0) (hz : (Gf.inv x.toNat : Int) = z) :
    Calls Try.prog 41 #[.pointer (some ⟨b, 0, none⟩), .int .u8 x] w fun e w' => e = .returned (.tuple #[.int .u8 z, .bool true]) ∧ Same w w' := by
  obtain ⟨n, rfl, hn⟩ := int_nat x hx
  subst hz
  exact inv_ne b n w h hn (by omega)
theorem axpy_at (p n m cn cm : Nat) (c : Int) (a b : Option Addr) (y x : Nat → Nat) (w : World) (h : FieldAt w p) (hy : BytesAt w a n y) (hx : BytesAt w b m x) (hn : n ≤ 140737488351232) (hm : m ≤ 140737488351232) (hc : 0 ≤ c ∧ c < 256) :
    Calls Try.prog 38 #[.pointer (some ⟨p, 0, none⟩), .slice a n cn, .slice b m cm, .int .u8 c] w fun e w' =>
      e = .returned (.slice (some ⟨w.heap.size, 0, none⟩) (min n m) (min n m)) ∧ w'.rowIs w.heap.size 5 (min n m) (addRow y x c.toNat (min n m)) ∧ Below w.heap.size w w' ∧ w'.heap.size = w.heap.size + 1 := by
  obtain ⟨k, rfl, hk⟩ := int_nat c hc
  exact axpy_any p n m cn cm k a b y x w h hy hx hn hm hk
end Go.Proofs.Ythlidbenhlidjaa

/-
  Rows of bytes read as strings, and rows that came in as arguments.
-/
namespace Go.Proofs.Ythlidbenhlidjaa
open Go.RowKit Go.Deep

/-- The sum of a row and c times another, place by place. -/
def addUp (y x : Nat → Nat) (c : Nat) (i : Nat) : Nat := y i ^^^ Gf.mul c (x i)

theorem axpy_bytes (p n m cn cm c : Nat) (a b : Option Addr) (y x : Nat → Nat) (w : World) (h : FieldAt w p) (hy : BytesAt w a n y) (hx : BytesAt w b m x) (hn : n ≤ 140737488351232) (hm : m ≤ 140737488351232) (hc : c < 256) (k : Nat) (hk : k = min n m) :
    Calls Try.prog 38 #[.pointer (some ⟨p, 0, none⟩), .slice a n cn, .slice b m cm, .int .u8 c] w fun e w' =>
      e = .returned (.slice (some ⟨w.heap.size, 0, none⟩) k k) ∧ BytesAt w' (some ⟨w.heap.size, 0, none⟩) k (addUp y x c) ∧ Below w.heap.size w w' ∧ w'.heap.size = w.heap.size + 1 := by
  subst hk
  refine (axpy_any p n m cn cm c a b y x w h hy hx hn hm hc).mono ?_
  rintro e w' ⟨rfl, hr, hb, hs⟩
  refine ⟨rfl, ⟨fun _ => ⟨_, 0, rfl, fun i hi => ?_⟩, fun i hi => ?_⟩, hb, hs⟩
  · rw [Nat.zero_add, hr.cell hi]
    unfold addRow addUp
    rw [if_pos hi]
  · exact Gf.xor_lt _ _ (hy.lt i (by omega)) (Gf.mul_lt _ _)

end Go.Proofs.Ythlidbenhlidjaa

/-
  What a nil Field answers: nought, no, nothing.
-/
namespace Go.Proofs.Ythlidbenhlidjaa
open Go.RowKit Go.Deep

set_option maxRecDepth 100000 in
set_option maxHeartbeats 400000 in
theorem nil_inv (a : Int) (w : World) :
    Calls Try.prog 41 #[.pointer none, .int .u8 a] w fun e w' => e = .returned (.tuple #[.int .u8 0, .bool false]) ∧ w' = w := by
  go_enter Try.func41, Try.ntmps41
  go_wp2
  go_ret2
  exact ⟨rfl, rfl⟩

set_option maxRecDepth 100000 in
set_option maxHeartbeats 400000 in
theorem nil_axpy (y x c : Value) (w : World) :
    Calls Try.prog 38 #[.pointer none, y, x, c] w fun e w' => e = .returned (.slice none 0 0) ∧ w' = w := by
  go_enter Try.func38, Try.ntmps38
  go_wp2
  go_ret
  exact ⟨rfl, rfl⟩

end Go.Proofs.Ythlidbenhlidjaa

/-
  Package cut: what its panics come to at the face: Count.
-/
namespace Go.Proofs.Ythlidbenhlidjaa
open Go.RowKit Go.Deep

/-- What package cut panics with. -/
def noted : List PanicEntry := [{ v := .iface 108 (.agg #[]), recovered := false }]

theorem demand_yes (b : Bool) (w : World) (h : b = true) :
    Calls Try.prog 52 #[.bool b] w fun e w' => e = .returned (.tuple #[]) ∧ w' = w := by
  subst h
  go_enter Try.func52, Try.ntmps52
  go_wp2
  go_end0
  exact ⟨rfl, rfl⟩

theorem demand_no (b : Bool) (w : World) (h : b = false) :
    Calls Try.prog 52 #[.bool b] w fun e w' => e = .panicked noted ∧ w' = w := by
  subst h
  go_enter Try.func52, Try.ntmps52
  go_wp2
  exact ⟨rfl, rfl, rfl⟩

/-- How many symbols of s bytes n bytes have. -/
def cntOf (n s : Nat) : Nat := (n + s - 1) / s
theorem cntOf_cast (n s : Nat) (h : 1 ≤ s) : ((n : Int) + (s : Int) - 1) / (s : Int) = (cntOf n s : Int) := by
  unfold cntOf
  rw [Int.natCast_ediv, show ((n + s - 1 : Nat) : Int) = (n : Int) + (s : Int) - 1 by omega]

set_option maxRecDepth 100000 in
theorem count_yes (n s : Nat) (w : World) (s1 : 1 ≤ s) (s2 : s ≤ 64) (n1 : 1 ≤ n) (n2 : n ≤ 32 * s) :
    Calls Try.prog 51 #[.int .i64 (n : Int), .int .i64 (s : Int)] w fun e w' => e = .returned (.int .i64 (cntOf n s : Int)) ∧ w' = w := by
  go_enter Try.func51, Try.ntmps51
  go_wp2_with fail
  refine (demand_yes _ _ (by simp <;> omega)).mono ?_
  rintro e w1 ⟨rfl, rfl⟩
  go_wp2_with fail
  refine (demand_yes _ _ (by simp <;> omega)).mono ?_
  rintro e w1 ⟨rfl, rfl⟩
  go_wp2
  go_ret
  exact ⟨ret_int (cntOf_cast n s s1), rfl⟩

set_option maxRecDepth 100000 in
theorem count_no (n s : Int) (w : World) (h : ¬ (1 ≤ s ∧ s ≤ 64 ∧ 1 ≤ n ∧ n ≤ 32 * s)) :
    Calls Try.prog 51 #[.int .i64 n, .int .i64 s] w fun e w' => e = .panicked noted ∧ w' = w := by
  by_cases h1 : 1 ≤ s ∧ s ≤ 64
  · obtain ⟨h1, h2⟩ := h1
    go_enter Try.func51, Try.ntmps51
    go_wp2_with fail
    refine (demand_yes _ _ (by simp <;> omega)).mono ?_
    rintro e w1 ⟨rfl, rfl⟩
    go_wp2_with fail
    all_goals
      refine (demand_no _ _ (by simp <;> omega)).mono ?_
      rintro e w1 ⟨rfl, rfl⟩
      go_wp2
      exact ⟨rfl, rfl, rfl⟩
  · go_enter Try.func51, Try.ntmps51
    go_wp2_with fail
    all_goals
      refine (demand_no _ _ (by simp <;> omega)).mono ?_
      rintro e w1 ⟨rfl, rfl⟩
      go_wp2
      exact ⟨rfl, rfl, rfl⟩

/-- Two new variables, at B and B + 1. -/
structure Duo (w : World) (B : Nat) (x y : Value) : Prop where
  fst : w.cell? ⟨B, 0, none⟩ = some x
  fstT : w.frozen? ⟨B, 0, none⟩ = false
  snd : w.cell? ⟨B + 1, 0, none⟩ = some y
  sndT : w.frozen? ⟨B + 1, 0, none⟩ = false
theorem Duo.ne (B : Nat) : (⟨B, 0, none⟩ : Addr) ≠ ⟨B + 1, 0, none⟩ := fun e => by have := (Addr.mk.inj e).1; omega
theorem Duo.grew {w w' : World} {B : Nat} {x y : Value} (h : Duo w B x y) (hb : Below w.heap.size w w') : Duo w' B x y :=
  ⟨(hb.cell (p := ⟨B, 0, none⟩) (cell_lt h.fst)).trans h.fst, (World.frozen?_of_block (a := ⟨B, 0, none⟩) (hb.block B (cell_lt h.fst))).trans h.fstT,
   (hb.cell (p := ⟨B + 1, 0, none⟩) (cell_lt h.snd)).trans h.snd, (World.frozen?_of_block (a := ⟨B + 1, 0, none⟩) (hb.block (B + 1) (cell_lt h.snd))).trans h.sndT⟩
theorem Duo.made (w : World) (x y : Value) (t u : TypeId) : Duo ((w.alloc (.cells #[x] t)).alloc (.cells #[y] u)) w.heap.size x y :=
  ⟨by simp, by simp, by simp, by simp⟩
theorem Duo.set {w : World} {B : Nat} {x y : Value} (h : Duo w B x y) (x' y' : Value) : Duo ((w.setCell ⟨B, 0, none⟩ x').setCell ⟨B + 1, 0, none⟩ y') B x' y' := by
  have e : (w.setCell ⟨B, 0, none⟩ x').cell? ⟨B + 1, 0, none⟩ = some y := (World.cell?_setCell_other _ _ _ _ (Duo.ne B)).trans h.snd
  refine ⟨?_, ?_, World.cell?_setCell_same _ _ _ e, ?_⟩
  · rw [World.cell?_setCell_other _ _ _ _ (Ne.symm (Duo.ne B))]
    exact World.cell?_setCell_same _ _ _ h.fst
  · simpa using h.fstT
  · simpa using h.sndT

end Go.Proofs.Ythlidbenhlidjaa

/-
  copy, of bytes onto a row of bytes.
-/
namespace Go.Proofs.Ythlidbenhlidjaa
open Go.RowKit Go.Deep

/-- A row of bytes. -/
def byteAt (f : Nat → Nat) (i : Nat) : Value := .int .u8 (f i : Int)
/-- The row f with n bytes of x laid over it from off on. -/
def over (f x : Nat → Nat) (off n i : Nat) : Nat := if off ≤ i ∧ i < off + n then x (i - off) else f i

theorem copy_run (w : World) (ty : TypeId) (g off dLen dCap K : Nat) (f : Nat → Nat) (a : Option Addr) (sLen sCap : Nat) (x : Nat → Nat)
    (hr : w.rowIs g 5 K (byteAt f)) (hx : BytesAt w a sLen x) (hfit : off + min sLen dLen ≤ K) :
    ∃ w', (Builtin.copy_ #[26, 26] ty #[.slice (some ⟨g, off, none⟩) dLen dCap, .slice a sLen sCap]).run Try.prog w = .ok (goInt (min sLen dLen : Nat)) w' ∧
      w'.rowIs g 5 K (byteAt (over f x off (min sLen dLen))) ∧ Kept g w w' ∧ w'.heap.size = w.heap.size := by
  have hsz : (Try.prog.info? 5).map (·.size) = some 1 := by
    obtain ⟨i0, hi, hz0, hz1, hz2⟩ := info_parts Try.infoByte
    rw [hi]
    exact congrArg some hz1
  by_cases h0 : min sLen dLen = 0
  · refine ⟨w, ?_, hr.congr fun i _ => ?_, Kept.refl _ _, rfl⟩
    · rw [run_copy_none (P := Try.prog) w 26 26 ty 5 _ _ dLen dCap sLen sCap Try.underlying26 hsz h0, h0]
      rfl
    · unfold byteAt over
      rw [if_neg (by omega)]
  · obtain ⟨b, o, rfl, hc⟩ := hx.cells (by omega)
    obtain ⟨c, hb, hn, hcc⟩ := hr
    have hl : (cellsAt x 0 (min sLen dLen)).length = min sLen dLen := cellsAt_len _ _ _
    have hrun := run_copy_row (P := Try.prog) w 26 26 ty 5 g off dLen dCap ⟨b, o, none⟩ sLen sCap c 5 (cellsAt x 0 (min sLen dLen)) Try.underlying26 hsz hb hl
      (fun j v hj => by
        obtain ⟨hjn, rfl⟩ := cellsAt_get _ _ _ _ _ hj
        rw [Addr.add_mid, Nat.zero_add]
        exact hc j (by omega)) (by rw [hl]; omega) (cellsAt_one _ _ _)
    rw [hl] at hrun
    refine ⟨_, hrun, ⟨_, setRow_heap w g c _ 5 _ hb, ?_, fun i hi => ?_⟩, ⟨rfl, rfl, rfl, by simp [World.setRow], fun k _ hk => setRow_other w g k _ hk⟩, by simp [World.setRow]⟩
    · simp [hl]
      omega
    · have hci := hcc i hi
      simp only [List.getElem?_toArray]
      unfold byteAt over
      by_cases h1 : i < off
      · rw [if_neg (by omega), List.append_assoc, List.getElem?_append_left (by simp; omega), List.getElem?_take_of_lt h1, Array.getElem?_toList]
        exact hci
      · by_cases h2 : i < off + min sLen dLen
        · rw [if_pos (by omega), List.append_assoc, List.getElem?_append_right (by simp; omega), List.getElem?_append_left (by simp [hl]; omega)]
          simp only [List.length_take, Array.length_toList]
          rw [show i - min off c.size = i - off by omega]
          simp [cellsAt, show i - off < min sLen dLen by omega]
        · rw [if_neg (by omega), List.append_assoc, List.getElem?_append_right (by simp; omega), List.getElem?_append_right (by simp [hl]; omega), List.getElem?_drop]
          simp only [List.length_take, Array.length_toList, hl]
          rw [show off + min sLen dLen + (i - min off c.size - min sLen dLen) = i by omega, Array.getElem?_toList]
          exact hci

/-- .. as one step of a region that draws. -/
theorem step_copy_run {ops : Array Oper} {o : Oper} {A : Act} {w : World} {C : Act → World → Prop} {Q : Exit → Act → World → Prop} {E : Prop}
    (hg : o.guard = none) (d s : Operand) (hop : o.op = Op.call { callee := Callee.builtin Builtin.copy, args := #[d, s], argTypes := #[26, 26] })
    (g off dLen dCap K : Nat) (f : Nat → Nat) (a : Option Addr) (sLen sCap : Nat) (x : Nat → Nat) (hd : A.eval d = .slice (some ⟨g, off, none⟩) dLen dCap) (hs : A.eval s = .slice a sLen sCap)
    (hr : w.rowIs g 5 K (byteAt f)) (hx : BytesAt w a sLen x) (hfit : off + min sLen dLen ≤ K)
    (h : ∀ w', Hid (w'.rowIs g 5 K (byteAt (over f x off (min sLen dLen)))) → Hid (Kept g w w') → Hid (w'.heap.size = w.heap.size) → C (A.put o.dst (goInt (min sLen dLen : Nat))) w') :
    if Region.wanted o (yielded ops A.tmps) = true then Oper.wp Try.prog o A w C Q else E := by
  have hw : Region.wanted o (yielded ops A.tmps) = true := by simp [Region.wanted, hg]
  rw [if_pos hw]
  obtain ⟨w', hrun, h1, h2, h3⟩ := copy_run w o.type g off dLen dCap K f a sLen sCap x hr hx hfit
  unfold Oper.wp
  simp only [execOp, hop, resolve, invoke, builtin]
  simp [hd, hs, hrun, Result.andThen]
  exact h w' h1 h2 h3

/-- .. as a law for the walk. -/
theorem wpList_copy_bytes {w : World} {ops : Array Oper} {rest : List Oper} {o : Oper} {A : Act} {Q : Exit → Act → World → Prop}
    (hg : o.guard = none) (d s : Operand) (hop : o.op = Op.call { callee := Callee.builtin Builtin.copy, args := #[d, s], argTypes := #[26, 26] })
    (g off dLen dCap K : Nat) (f : Nat → Nat) (a : Option Addr) (sLen sCap : Nat) (x : Nat → Nat) (hd : A.eval d = .slice (some ⟨g, off, none⟩) dLen dCap) (hs : A.eval s = .slice a sLen sCap)
    (hr : w.rowIs g 5 K (byteAt f)) (hx : BytesAt w a sLen x) (hfit : off + min sLen dLen ≤ K)
    (h : ∀ w', Hid (w'.rowIs g 5 K (byteAt (over f x off (min sLen dLen)))) → Hid (Kept g w w') → Hid (w'.heap.size = w.heap.size) → wpList Try.prog ops Q rest (A.put o.dst (goInt (min sLen dLen : Nat))) w') :
    wpList Try.prog ops Q (o :: rest) A w := by
  refine wpList_plain hg fun C hC => ?_
  obtain ⟨w', hrun, h1, h2, h3⟩ := copy_run w o.type g off dLen dCap K f a sLen sCap x hr hx hfit
  unfold Oper.wp
  simp [execOp, hop, resolve, invoke, builtin, hd, hs, hrun, Result.andThen]
  exact hC _ _ (h w' h1 h2 h3)
theorem row_bytes' {w : World} {g t K : Nat} {f x : Nat → Nat} (h : w.rowIs g t K (byteAt f)) (hx : ∀ i, i < K → f i = x i) (lt : ∀ i, i < K → x i < 256) : BytesAt w (some ⟨g, 0, none⟩) K x :=
  ⟨fun _ => ⟨g, 0, rfl, fun i hi => by rw [Nat.zero_add, h.cell hi, ← hx i hi]; rfl⟩, lt⟩
set_option maxRecDepth 100000 in
theorem slice_from (b o n c l : Nat) (w : World) (h1 : l < n) (h2 : n ≤ c) : (Instr.slice 26 (.slice (some ⟨b, o, none⟩) n c) (some (.int .i64 (l : Int))) none none).run Try.prog w = .ok (.slice (some ⟨b, o + l, none⟩) (n - l) (c - l)) w := by
  have e := run_slice_l (P := Try.prog) w 26 (some ⟨b, o, none⟩) n c Try.underlying26 .i64 (l : Int) (by omega) (by omega)
  rw [e]
  have hs : (sizeOf (Try.prog.elem 26)).run Try.prog w = .ok 1 w := by kernel_rfl
  rw [hs]
  have hz : (⟨b, o, none⟩ : Addr).add l = ⟨b, o + l, none⟩ := by unfold Addr.add; split <;> simp_all
  simp only [Result.andThen, sliced, Int.toNat_natCast, Nat.mul_one, Option.map_some, hz]
  rw [if_neg (by omega)]
theorem BytesAt.drop {w : World} {b o n m : Nat} {x : Nat → Nat} (h : BytesAt w (some ⟨b, o, none⟩) (m + n) x) : BytesAt w (some ⟨b, o + m, none⟩) n (fun i => x (m + i)) := by
  refine ⟨fun _ => ⟨b, o + m, rfl, fun i hi => ?_⟩, fun i hi => h.lt _ (by omega)⟩
  have := bytes_cell h (m + i) (by omega)
  rwa [← Nat.add_assoc] at this
theorem over_set {w : World} {g t K off n : Nat} {f x : Nat → Nat} (h : w.rowIs g t K (byteAt (over f x off n))) : (w.setCell ⟨g, off + n, none⟩ (.int .u8 (x n : Int))).rowIs g t K (byteAt (over f x off (n + 1))) := by
  refine (h.set (off + n) _).congr fun i _ => ?_
  unfold byteAt over
  by_cases e : i = off + n
  · subst e; rw [if_pos rfl, if_pos (by omega), Nat.add_sub_cancel_left]
  · rw [if_neg e]
    by_cases g : off ≤ i ∧ i < off + n
    · rw [if_pos g, if_pos (by omega)]
    · rw [if_neg g, if_neg (by omega)]
theorem over_none (f x : Nat → Nat) (off : Nat) : over f x off 0 = f := by
  funext i
  unfold over
  rw [if_neg (by omega)]
end Go.Proofs.Ythlidbenhlidjaa

/-
  Package cut: Split.
-/
namespace Go.Proofs.Ythlidbenhlidjaa
open Go.RowKit Go.Deep

/-- The i-th symbol of s bytes of the n bytes x. -/
def piece (x : Nat → Nat) (n s i j : Nat) : Nat := if i * s + j < n then x (i * s + j) else 0

theorem piece_lt {x : Nat → Nat} {n s i : Nat} (h : ∀ i, i < n → x i < 256) (j : Nat) : piece x n s i j < 256 := by
  unfold piece
  split
  · exact h _ (by assumption)
  · decide
/-- The first j symbols stand in the room L. -/
def PcsTo (w : World) (L n s : Nat) (x : Nat → Nat) (j : Nat) (A : Nat → Value) : Prop :=
  ∀ i, i < j → ∃ b, A i = .slice (some ⟨b, 0, none⟩) s s ∧ b ≠ L ∧ BytesAt w (some ⟨b, 0, none⟩) s (piece x n s i)

theorem cnt_le (n s : Nat) (s1 : 1 ≤ s) (n2 : n ≤ 32 * s) : cntOf n s ≤ 32 := by
  unfold cntOf
  have : (n + s - 1) / s < 33 := by rw [Nat.div_lt_iff_lt_mul (by omega)]; omega
  omega
theorem cnt_mul (n s i : Nat) (s1 : 1 ≤ s) (_n1 : 1 ≤ n) (h : i < cntOf n s) : i * s < n := by
  unfold cntOf at h
  have h2 : (i + 1) * s ≤ n + s - 1 := (Nat.le_div_iff_mul_le (by omega)).1 h
  rw [Nat.add_mul, Nat.one_mul] at h2
  omega
theorem mul_fits (j s m : Nat) (h : m = j * s) (hm : m ≤ 1000000) : IntKind.i64.wrap ((j : Int) * (s : Int)) = (m : Int) := by
  rw [show (j : Int) * (s : Int) = (m : Int) by rw [h, Int.natCast_mul], IntKind.wrap_i64]
  omega
set_option maxRecDepth 100000 in
set_option maxHeartbeats 400000 in
theorem split_yes (a : Option Addr) (n c s k : Nat) (x : Nat → Nat) (w : World) (hx : BytesAt w a n x) (hc : n ≤ c) (s1 : 1 ≤ s) (s2 : s ≤ 64) (n1 : 1 ≤ n) (n2 : n ≤ 32 * s) (hk : k = cntOf n s) :
    Calls Try.prog 43 #[.slice a n c, .int .i64 (s : Int)] w fun e w' => ∃ L A, e = .returned (.slice (some ⟨L, 0, none⟩) k k) ∧ w.heap.size ≤ L ∧ w'.rowIs L 26 k A ∧ PcsTo w' L n s x k A ∧ Below w.heap.size w w' := by
  have k32 : k ≤ 32 := by rw [hk]; exact cnt_le n s s1 n2
  have n3 : n ≤ 2048 := by omega
  have HM : Hid (∀ i, i < k → i * s < n) := fun i hi => cnt_mul n s i s1 n1 (hk ▸ hi)
  have HK : Hid (cntOf n s = k) := hk.symm
  clear hk
  have hmk := run_make_row' (P := Try.prog) 77 26 (.slice none 0 0) 24 Try.underlying77 Try.infoRow rfl .i64 .i64 k (by omega) (by omega)
  have hms := run_make_row' (P := Try.prog) 26 5 (.int .u8 0) 1 Try.underlying26 Try.infoByte rfl .i64 .i64 s (by omega) (by omega)
  obtain ⟨b0, o0, rfl⟩ := bytes_some hx n1
  have HX : Hid (BytesAt w (some ⟨b0, o0, none⟩) n x) := hx
  clear hx
  go_enter Try.func43, Try.ntmps43
  go_wp2_with fail
  refine (count_yes n s _ s1 s2 n1 n2).mono ?_
  rintro e w ⟨rfl, rfl⟩
  rw [HK.out]
  clear HK n2
  go_wp2_with fail
  clear hmk
  go_loopw [14] (fun i wr => ∃ j : Nat, j ≤ k ∧ i = .int .i64 j ∧ ∃ A, wr.rowIs w.heap.size 26 k A ∧ PcsTo wr w.heap.size n s x j A ∧ Below w.heap.size w wr) (fun i _ => k - (intOf i).toNat)
  case atStart => exact ⟨0, Nat.zero_le _, rfl, _, World.rowIs_made w _ k _, fun i hi => absurd hi (by omega), (Below.refl _ _).alloc (Nat.le_refl _) _⟩
  case round =>
    obtain ⟨j, hj, rfl, A, hrow, hP, hb⟩ := hrel
    by_cases hjk : j < k
    · have i1 : (j : Int) < (k : Int) := by omega
      obtain ⟨v3, c3⟩ : ∃ v, wr.cell? ⟨w.heap.size, j, none⟩ = some v := ⟨_, hrow.cell hjk⟩
      have f3 := hrow.frozen j
      have l3 := hrow.lt
      have jm := HM.out j hjk
      have HL : Hid (((wr.setCell ⟨w.heap.size, j, none⟩ (.slice (some ⟨wr.heap.size, 0, none⟩) s s)).alloc (.cells (madeCells #[.int .u8 0] s) 5)).rowIs w.heap.size 26 k (fun i => if i = j then .slice (some ⟨wr.heap.size, 0, none⟩) s s else A i)) := (hrow.set j _).alloc _
      have HG : Hid (((wr.setCell ⟨w.heap.size, j, none⟩ (.slice (some ⟨wr.heap.size, 0, none⟩) s s)).alloc (.cells (madeCells #[.int .u8 0] s) 5)).rowIs wr.heap.size 5 s (byteAt fun _ => 0)) := by
        have := World.rowIs_made (wr.setCell ⟨w.heap.size, j, none⟩ (.slice (some ⟨wr.heap.size, 0, none⟩) s s)) (.int .u8 0) s 5
        rw [show (wr.setCell ⟨w.heap.size, j, none⟩ (.slice (some ⟨wr.heap.size, 0, none⟩) s s)).heap.size = wr.heap.size by simp [World.setCell]] at this
        exact this
      have HB : Hid (Below w.heap.size w ((wr.setCell ⟨w.heap.size, j, none⟩ (.slice (some ⟨wr.heap.size, 0, none⟩) s s)).alloc (.cells (madeCells #[.int .u8 0] s) 5))) := (hb.setCell (Nat.le_refl _) _).alloc (by have := hb.size; simpa [World.setCell] using this) _
      have HP : Hid (∀ i, i < j → ∃ b, A i = .slice (some ⟨b, 0, none⟩) s s ∧ b ≠ w.heap.size ∧ b < wr.heap.size ∧ BytesAt ((wr.setCell ⟨w.heap.size, j, none⟩ (.slice (some ⟨wr.heap.size, 0, none⟩) s s)).alloc (.cells (madeCells #[.int .u8 0] s) 5)) (some ⟨b, 0, none⟩) s (piece x n s i)) := by
        intro i hi
        obtain ⟨b, h1, h2, h3⟩ := hP i hi
        exact ⟨b, h1, h2, cell_lt (bytes_cell h3 0 (by omega)), (h3.setOther h2).grew ((Below.refl _ _).alloc (Nat.le_refl _) _)⟩
      have HS : Hid (((wr.setCell ⟨w.heap.size, j, none⟩ (.slice (some ⟨wr.heap.size, 0, none⟩) s s)).alloc (.cells (madeCells #[.int .u8 0] s) 5)).heap.size = wr.heap.size + 1) := by show _ = _; simp [World.setCell]
      clear hrow hP hb
      go_wp2_with fail
      generalize (wr.setCell ⟨w.heap.size, j, none⟩ (.slice (some ⟨wr.heap.size, 0, none⟩) s s)).alloc (.cells (madeCells #[.int .u8 0] s) 5) = w3 at *
      have c4 := HL.out.cell hjk
      simp only [if_true] at c4
      obtain ⟨m, hm⟩ : ∃ m, m = j * s := ⟨_, rfl⟩
      have hw := mul_fits j s m hm (by omega)
      have hsl := fun W => slice_from b0 o0 n c m W (by omega) hc
      have HMJ : Hid (m = j * s) := hm
      have mn : m < n := by omega
      have mc : ¬ c = m := by omega
      have HY : Hid (BytesAt w3 (some ⟨b0, o0 + m, none⟩) (n - m) (fun t => x (m + t))) := by
        have B := HX.out.below HB.out (Nat.le_refl _)
        refine ⟨fun _ => ⟨b0, o0 + m, rfl, fun i hi => ?_⟩, fun i hi => B.lt _ (by omega)⟩
        have := bytes_cell B (m + i) (by omega)
        rwa [← Nat.add_assoc] at this
      clear hm jm c3 f3 
      go_region_law (refine step_copy_run rfl (.tmp 25) (.tmp 30) rfl wr.heap.size 0 s s s (fun _ => 0) (some ⟨b0, o0 + m, none⟩) (n - m) (c - m) (fun t => x (m + t)) rfl rfl (by exact HG.out) (by exact (HY.out.grew (below_drews 1))) (by omega) ?_; intro w4 R4 K4 S4)
      go_wp2
      go_roundw
      case rel =>
        have l4 : wr.heap.size ≠ w.heap.size := by omega
        have q4 : w3.drew.heap.size = w3.heap.size := rfl
        have q5 := HS.out
        have B3 : Below w.heap.size w w3.drew := HB.out.trans (below_drews 1)
        have B4 : Below w.heap.size w3.drew w4 := K4.out.below (by omega) (by omega)
        refine ⟨j + 1, by omega, by go_num, _, HL.out.of_block (K4.out.block w.heap.size (by omega) (Ne.symm l4)), fun i hi => ?_, B3.trans B4⟩
        by_cases e : i = j
        · subst e
          refine ⟨wr.heap.size, if_pos rfl, l4, row_bytes' R4.out (fun t ht => ?_) (fun t _ => piece_lt HX.out.lt t)⟩
          have hm := HMJ.out
          unfold over piece
          rw [← hm]
          by_cases g : m + t < n
          · rw [if_pos (by omega), if_pos g]
            rfl
          · rw [if_neg (by omega), if_neg g]
        · obtain ⟨b, h1, h2, h3, h4⟩ := HP.out i (by omega)
          refine ⟨b, (if_neg e).trans h1, h2, ⟨fun _ => ⟨b, 0, rfl, fun t ht => ?_⟩, h4.lt⟩⟩
          exact K4.out.cell (bytes_cell h4 t ht) (by omega)
      case measure => simp [intOf]; omega
    · obtain rfl : j = k := by omega
      have HL : Hid (wr.rowIs w.heap.size 26 j A) := hrow
      have HP : Hid (PcsTo wr w.heap.size n s x j A) := hP
      have HB : Hid (Below w.heap.size w wr) := hb
      clear hrow hP hb hjk hj
      go_wp2
      go_ret
      exact ⟨_, A, rfl, Nat.le_refl _, HL.out, HP.out, HB.out⟩

theorem split_no (a : Option Addr) (n c : Nat) (s : Int) (w : World) (h : ¬ (1 ≤ s ∧ s ≤ 64 ∧ 1 ≤ (n : Int) ∧ (n : Int) ≤ 32 * s)) :
    Calls Try.prog 43 #[.slice a n c, .int .i64 s] w fun e w' => e = .panicked noted ∧ w' = w := by
  go_enter Try.func43, Try.ntmps43
  go_wp2_with fail
  refine (count_no n s _ h).mono ?_
  rintro e w ⟨rfl, rfl⟩
  go_wp2
  exact ⟨rfl, rfl, rfl⟩

theorem catchS_yes (p q : Addr) (x y : Value) (older : List PanicEntry) (w : World) (hc : w.cell? p = some x) (hz : w.frozen? p = false) (hd : w.cell? q = some y) (hy : w.frozen? q = false) (hpq : p ≠ q) :
    CallsD Try.prog 42 #[.pointer (some p), .pointer (some q)] (.panicking ({ v := .iface 108 (.agg #[]), recovered := false } :: older)) w fun e u' w' =>
      e = .returned (.tuple #[]) ∧ u' = .panicking ({ v := .iface 108 (.agg #[]), recovered := true } :: older) ∧ w' = (w.setCell p (.slice none 0 0)).setCell q (.bool false) := by
  have hd' : (w.setCell p (.slice none 0 0)).cell? q = some y := (World.cell?_setCell_other _ _ _ _ hpq).trans hd
  refine callsD_of_wpS Try.func42 rfl fun c₀ cs hu => ?_
  apply wpS_seq
  apply wpS_region
  simp [wpOpsS, go_sem, recoverD, hu, Try.ntmps42, Exit.thenS]
  refine wpS_cond (t := true) (by simp [Act.eval, Array.replicate]) ?_
  simp only [if_true]
  apply wpS_region
  simp [wpOpsS, go_sem, hc, hz, hd', hy, bodyPostS, results, Try.results42]

theorem catchS_idle (p q : Addr) (w : World) :
    CallsD Try.prog 42 #[.pointer (some p), .pointer (some q)] .returning w fun e u' w' => e = .returned (.tuple #[]) ∧ u' = .returning ∧ w' = w := by
  refine callsD_of_wpS Try.func42 rfl fun c₀ cs hu => ?_
  apply wpS_seq
  apply wpS_region
  simp [wpOpsS, go_sem, recoverD, hu, Try.ntmps42, Exit.thenS]
  refine wpS_cond (t := false) (by simp [Act.eval, Array.replicate]) ?_
  simp only [Bool.false_eq_true, if_false]
  refine wpS_of_wp (wp_skip ?_)
  cases c₀
  simp_all [bodyPostS, results, Try.results42]

/-- A text's symbols were answered. -/
def SplitAns (w : World) (n s k : Nat) (x : Nat → Nat) (e : Ending) (w' : World) : Prop :=
  ∃ L A, e = .returned (.tuple #[.slice (some ⟨L, 0, none⟩) k k, .bool true]) ∧ w.heap.size ≤ L ∧ w'.rowIs L 26 k A ∧ PcsTo w' L n s x k A ∧ Below w.heap.size w w'

theorem duo_below {w0 w : World} {B : Nat} (hb : Below B w0 w) (x y : Value) : Below B w0 ((w.setCell ⟨B, 0, none⟩ x).setCell ⟨B + 1, 0, none⟩ y) :=
  (hb.setCell (Nat.le_refl _) _).setCell (Nat.le_succ _) _
theorem cell_ne {w : World} {b o b' o' : Nat} {v v' : Value} (h : w.cell? ⟨b, o, none⟩ = some v) (h' : w.cell? ⟨b', o', none⟩ = some v') (hb : b = b') (ho : o = o') : v = v' := by
  subst hb ho
  exact Option.some.inj (h.symm.trans h')

set_option maxRecDepth 100000 in
theorem face_split_yes (a : Option Addr) (n c s k : Nat) (x : Nat → Nat) (w : World) (hx : BytesAt w a n x) (hc : n ≤ c) (s1 : 1 ≤ s) (s2 : s ≤ 64) (n1 : 1 ≤ n) (n2 : n ≤ 32 * s) (hk : k = cntOf n s) :
    Calls Try.prog 35 #[.slice a n c, .int .i64 (s : Int)] w fun e w' => SplitAns w n s k x e w' := by
  have hmf : ∀ (fn : Fn) (first cap : Array Value) (w : World), (Instr.makeFunc fn first cap).run Try.prog w = .ok (.func fn first cap) w := fun _ _ _ _ => rfl
  have D := Duo.made w (.slice none 0 0) (.bool false) 77 4
  have B1 : Below w.heap.size w ((w.alloc (.cells #[.slice none 0 0] 77)).alloc (.cells #[.bool false] 4)) := ((Below.refl _ _).alloc (Nat.le_refl _) _).alloc (by simp) _
  have S1 : ((w.alloc (.cells #[.slice none 0 0] 77)).alloc (.cells #[.bool false] 4)).heap.size = w.heap.size + 2 := by simp
  go_enter_defers Try.func35, Try.ntmps35
  go_wp2_with fail
  generalize ((w.alloc (.cells #[.slice none 0 0] 77)).alloc (.cells #[.bool false] 4)) = w1 at *
  refine (split_yes a n c s k x w1 (hx.grew B1) hc s1 s2 n1 n2 hk).mono ?_
  rintro e w2 ⟨L, A, rfl, hL, hR, hP, hB⟩
  have D2 := D.grew hB
  have hd1 := D2.fst
  have hd2 := D2.fstT
  have hd3 := D2.snd
  have hd4 := D2.sndT
  have D3 := D2.set (.slice (some ⟨L, 0, none⟩) k k) (.bool true)
  have g1 := D3.fst
  have g2 := D3.snd
  have HB : Hid (Below w.heap.size w ((w2.setCell ⟨w.heap.size, 0, none⟩ (.slice (some ⟨L, 0, none⟩) k k)).setCell ⟨w.heap.size + 1, 0, none⟩ (.bool true))) := duo_below (B1.trans (hB.mono (by omega))) _ _
  have HR : Hid (((w2.setCell ⟨w.heap.size, 0, none⟩ (.slice (some ⟨L, 0, none⟩) k k)).setCell ⟨w.heap.size + 1, 0, none⟩ (.bool true)).rowIs L 26 k A) := (hR.setOther (by show L ≠ w.heap.size; omega) _).setOther (by show L ≠ w.heap.size + 1; omega) _
  have HP : Hid (PcsTo ((w2.setCell ⟨w.heap.size, 0, none⟩ (.slice (some ⟨L, 0, none⟩) k k)).setCell ⟨w.heap.size + 1, 0, none⟩ (.bool true)) L n s x k A) := by
    intro i hi
    obtain ⟨b, h1, h2, h3⟩ := hP i hi
    have h4 := bytes_cell h3 0 (by omega)
    have n1 : b ≠ w.heap.size := fun e => by have := cell_ne h4 hd1 e rfl; cases this
    have n2 : b ≠ w.heap.size + 1 := fun e => by have := cell_ne h4 hd3 e rfl; cases this
    exact ⟨b, h1, h2, (h3.setOther n1).setOther n2⟩
  clear D D2 D3 hR hP hB hk
  go_wp2
  refine leaves_cons (f := 42) (args := #[.pointer (some ⟨w.heap.size, 0, none⟩), .pointer (some ⟨w.heap.size + 1, 0, none⟩)]) (by simp) (by simp [go_sem]) ?_
  refine (catchS_idle ⟨w.heap.size, 0, none⟩ ⟨w.heap.size + 1, 0, none⟩ _).mono ?_
  rintro e u' w'' ⟨rfl, rfl, rfl⟩
  generalize ((w2.setCell ⟨w.heap.size, 0, none⟩ (.slice (some ⟨L, 0, none⟩) k k)).setCell ⟨w.heap.size + 1, 0, none⟩ (.bool true)) = w5 at *
  simp [Leaves, settle, results, Try.results35, go_sem, g1, g2]
  exact ⟨L, A, rfl, by omega, HR.out, HP.out, HB.out⟩

set_option maxRecDepth 100000 in
theorem face_split_no (a : Option Addr) (n c : Nat) (s : Int) (w : World) (h : ¬ (1 ≤ s ∧ s ≤ 64 ∧ 1 ≤ (n : Int) ∧ (n : Int) ≤ 32 * s)) :
    Calls Try.prog 35 #[.slice a n c, .int .i64 s] w fun e w' => e = .returned (.tuple #[.slice none 0 0, .bool false]) ∧ Below w.heap.size w w' := by
  have hmf : ∀ (fn : Fn) (first cap : Array Value) (w : World), (Instr.makeFunc fn first cap).run Try.prog w = .ok (.func fn first cap) w := fun _ _ _ _ => rfl
  go_enter_defers Try.func35, Try.ntmps35
  go_wp2_with fail
  refine (split_no a n c s _ h).mono ?_
  rintro e w1 ⟨rfl, rfl⟩
  go_wp2
  refine leaves_cons (f := 42) (args := #[.pointer (some ⟨w.heap.size, 0, none⟩), .pointer (some ⟨w.heap.size + 1, 0, none⟩)]) (by simp) (by simp [go_sem]) ?_
  have D := Duo.made w (.slice none 0 0) (.bool false) 77 4
  refine (catchS_yes ⟨w.heap.size, 0, none⟩ ⟨w.heap.size + 1, 0, none⟩ _ _ [] _ D.fst D.fstT D.snd D.sndT (Duo.ne _)).mono ?_
  rintro e u' w'' ⟨rfl, rfl, rfl⟩
  simp [Leaves, settle, results, Try.results35, go_sem]
  exact ((Below.refl _ _).alloc (Nat.le_refl _) _).alloc (by simp) _
end Go.Proofs.Ythlidbenhlidjaa

/-
  Bits of numbers that are told as Nat. No program.
-/
namespace Go.Proofs.Ythlidbenhlidjaa
open Go.RowKit Go.Deep

theorem u32_xor (a b : Nat) (ha : a < 4294967296) (hb : b < 4294967296) : bits .xor .u32 (a : Int) (b : Int) = ((a ^^^ b : Nat) : Int) := by
  have hx : a ^^^ b < 2 ^ 32 := Nat.xor_lt_two_pow (by omega) (by omega)
  show IntKind.u32.wrap ((BitVec.ofInt 32 (a : Int) ^^^ BitVec.ofInt 32 (b : Int)).toNat : Int) = _
  rw [BitVec.toNat_xor, BitVec.ofInt_natCast, BitVec.ofInt_natCast, BitVec.toNat_ofNat, BitVec.toNat_ofNat, Nat.mod_eq_of_lt (a := a) (by omega), Nat.mod_eq_of_lt (a := b) (by omega)]
  simp [IntKind.wrap, IntKind.bits, IntKind.signed]
  omega
theorem u32_or (a b : Nat) (ha : a < 4294967296) (hb : b < 4294967296) : bits .or .u32 (a : Int) (b : Int) = ((a ||| b : Nat) : Int) := by
  have hx : a ||| b < 2 ^ 32 := Nat.or_lt_two_pow (by omega) (by omega)
  show IntKind.u32.wrap ((BitVec.ofInt 32 (a : Int) ||| BitVec.ofInt 32 (b : Int)).toNat : Int) = _
  rw [BitVec.toNat_or, BitVec.ofInt_natCast, BitVec.ofInt_natCast, BitVec.toNat_ofNat, BitVec.toNat_ofNat, Nat.mod_eq_of_lt (a := a) (by omega), Nat.mod_eq_of_lt (a := b) (by omega)]
  simp [IntKind.wrap, IntKind.bits, IntKind.signed]
  omega
theorem u64_xor (a b : Nat) (ha : a < 4294967296) (hb : b < 4294967296) : bits .xor .u64 (a : Int) (b : Int) = ((a ^^^ b : Nat) : Int) := by
  have hx : a ^^^ b < 2 ^ 32 := Nat.xor_lt_two_pow (by omega) (by omega)
  show IntKind.u64.wrap ((BitVec.ofInt 64 (a : Int) ^^^ BitVec.ofInt 64 (b : Int)).toNat : Int) = _
  rw [BitVec.toNat_xor, BitVec.ofInt_natCast, BitVec.ofInt_natCast, BitVec.toNat_ofNat, BitVec.toNat_ofNat, Nat.mod_eq_of_lt (a := a) (by omega), Nat.mod_eq_of_lt (a := b) (by omega)]
  simp [IntKind.wrap, IntKind.bits, IntKind.signed]
  omega
theorem u64_or (a b : Nat) (ha : a < 18446744073709551616) (hb : b < 18446744073709551616) : bits .or .u64 (a : Int) (b : Int) = ((a ||| b : Nat) : Int) := by
  have hx : a ||| b < 2 ^ 64 := Nat.or_lt_two_pow (by omega) (by omega)
  show IntKind.u64.wrap ((BitVec.ofInt 64 (a : Int) ||| BitVec.ofInt 64 (b : Int)).toNat : Int) = _
  rw [BitVec.toNat_or, BitVec.ofInt_natCast, BitVec.ofInt_natCast, BitVec.toNat_ofNat, BitVec.toNat_ofNat, Nat.mod_eq_of_lt (a := a) (by omega), Nat.mod_eq_of_lt (a := b) (by omega)]
  simp [IntKind.wrap, IntKind.bits, IntKind.signed]
  omega
theorem u8_or (a b : Nat) (ha : a < 256) (hb : b < 256) : bits .or .u8 (a : Int) (b : Int) = ((a ||| b : Nat) : Int) := by
  have hx : a ||| b < 2 ^ 8 := Nat.or_lt_two_pow (by omega) (by omega)
  show IntKind.u8.wrap ((BitVec.ofInt 8 (a : Int) ||| BitVec.ofInt 8 (b : Int)).toNat : Int) = _
  rw [BitVec.toNat_or, BitVec.ofInt_natCast, BitVec.ofInt_natCast, BitVec.toNat_ofNat, BitVec.toNat_ofNat, Nat.mod_eq_of_lt (a := a) (by omega), Nat.mod_eq_of_lt (a := b) (by omega)]
  simp [IntKind.wrap, IntKind.bits, IntKind.signed]
  omega
/-- A number and a byte put behind it. -/
theorem or_byte (a b : Nat) (h : b < 256) : (a * 256) ||| b = a * 256 + b := by
  have := Nat.two_pow_add_eq_or_of_lt (i := 8) (b := b) h a
  rw [Nat.mul_comm a 256]
  exact this.symm
end Go.Proofs.Ythlidbenhlidjaa

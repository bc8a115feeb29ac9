/-
  Contracts of package field of the program: what New, Mul, Inv, Div, Exp and Log answer, in terms of the tables of Gf.
-/
import Derived.Test.YthlidbenhlidjaaRows
import Derived.Test.YthlidbenhlidjaaGf
import Derived.Test.YthlidbenhlidjaaMem
import Derived.WalkKit
import Derived.WalkSpells
import Derived.WalkLawsBesides
import Derived.Deep.QuietTactic
import Derived.BigQuiet
import Derived.BigRegion
import Derived.Laws.BitsAllLaws
namespace Go.Proofs.Ythlidbenhlidjaa
open Go.RowKit

theorem dbl_hi (n : Nat) (hn : n < 256) : (bits .and .i64 ((n : Int) * 2) 256 != 0) = decide (128 ≤ n) := by
  have := Gf.all_of (n := 256) (p := fun n => (bits .and .i64 ((n : Int) * 2) 256 != 0) == decide (128 ≤ n)) (by decide +kernel) n hn
  simpa using this
theorem dbl_yes (n : Nat) (hn : n < 256) (h : 128 ≤ n) : bits .xor .i64 ((n : Int) * 2) 285 % 256 = (Gf.dbl n : Int) := by
  have := Gf.all_of (n := 256) (p := fun n => decide (n < 128) || bits .xor .i64 ((n : Int) * 2) 285 % 256 == (Gf.dbl n : Int)) (by decide +kernel) n hn
  simpa [show ¬ n < 128 by omega] using this
set_option maxRecDepth 100000 in
set_option maxHeartbeats 400000 in
theorem double_any (n : Nat) (hn : n < 256) (w : World) :
    Calls Try.prog 21 #[.int .u8 n] w fun e w' => e = .returned (.int .u8 (Gf.dbl n)) ∧ w' = w := by
  have hb := dbl_hi n hn
  by_cases h : 128 ≤ n
  · have hy := dbl_yes n hn h
    have HY : Hid (bits .xor .i64 ((n : Int) * 2) 285 % 256 = (Gf.dbl n : Int)) := hy
    clear hy
    rw [decide_eq_true h] at hb
    go_enter Try.func21, Try.ntmps21
    go_wp2
    go_ret
    exact ⟨ret_int HY.out, rfl⟩
  · rw [decide_eq_false h] at hb
    have HN : Hid ((n : Int) * 2 = (Gf.dbl n : Int)) := by show (n : Int) * 2 = _; unfold Gf.dbl; rw [if_pos (by omega)]; omega
    go_enter Try.func21, Try.ntmps21
    go_wp2
    go_ret
    exact ⟨ret_int HN.out, rfl⟩


def zeros : Array Value := Array.replicate 766 (.int .u8 0)
theorem zero_field (w : World) : (zeroValue 62).run Try.prog w = .ok (.agg zeros) w := by kernel_rfl


/-- The block B of w holds the tables of New behind k rounds. -/
structure Filled (w : World) (B k : Nat) : Prop where
  powers : ∀ i, i < 510 → w.cell? ⟨B, i, none⟩ = some (.int .u8 ((if i % 255 < k then Gf.pw i else 0 : Nat) : Int))
  logs : ∀ a, a < 256 → w.cell? ⟨B, 510 + a, none⟩ = some (.int .u8 ((if a ≠ 0 ∧ Gf.lg a < k then Gf.lg a else 0 : Nat) : Int))
  thawed : ∀ o, o < 766 → w.frozen? ⟨B, o, none⟩ = false
  size : w.heap.size = B + 1


theorem zeros_get (i : Nat) (h : i < 766) : zeros[i]? = some (.int .u8 0) := by
  unfold zeros; rw [Array.getElem?_replicate, if_pos h]

theorem Filled.start (w : World) : Filled (w.alloc (.cells zeros 62)) w.heap.size 0 := by
  refine ⟨fun i hi => ?_, fun a ha => ?_, fun o ho => ?_, ?_⟩
  · rw [World.cell?_alloc_at _ _ _ _ rfl, zeros_get i (by omega)]; simp
  · rw [World.cell?_alloc_at _ _ _ _ rfl, zeros_get _ (by omega)]; simp
  · rw [frozen?_alloc_cells]; simp [World.frozen?]
  · simp

theorem addr_ne {B x y : Nat} (h : x ≠ y) : (⟨B, x, none⟩ : Addr) ≠ ⟨B, y, none⟩ := fun e => h (Addr.mk.inj e).2.1

theorem Filled.step {w : World} {B k : Nat} (hf : Filled w B k) (hk : k < 255) :
    Filled (((w.setCell ⟨B, k, none⟩ (.int .u8 (Gf.pw k))).setCell ⟨B, k + 255, none⟩ (.int .u8 (Gf.pw k))).setCell ⟨B, 510 + Gf.pw k, none⟩ (.int .u8 k)).drew B (k + 1) := by
  have hp := Gf.pw_lt k
  refine ⟨fun i hi => ?_, fun a ha => ?_, fun o ho => ?_, ?_⟩
  · rw [World.cell?_drew, World.cell?_setCell_other _ _ _ _ (addr_ne (by omega))]
    by_cases h2 : i = k + 255
    · subst h2
      rw [World.cell?_setCell_same _ _ _ (by rw [World.cell?_setCell_other _ _ _ _ (addr_ne (by omega))]; exact hf.powers _ hi), if_pos (by omega), Gf.pw_add255]
    · rw [World.cell?_setCell_other _ _ _ _ (addr_ne (by omega))]
      by_cases h1 : i = k
      · subst h1
        rw [World.cell?_setCell_same _ _ _ (hf.powers _ hi), if_pos (by omega)]
      · rw [World.cell?_setCell_other _ _ _ _ (addr_ne (by omega)), hf.powers i hi]
        by_cases h3 : i % 255 < k
        · rw [if_pos h3, if_pos (by omega)]
        · rw [if_neg h3, if_neg (by omega)]
  · rw [World.cell?_drew]
    by_cases h1 : a = Gf.pw k
    · rw [h1, World.cell?_setCell_same _ _ _ (by rw [World.cell?_setCell_other _ _ _ _ (addr_ne (by omega)), World.cell?_setCell_other _ _ _ _ (addr_ne (by omega))]; exact hf.logs _ hp), Gf.lg_pw_small k hk, if_pos ⟨Gf.pw_pos k, by omega⟩]
    · rw [World.cell?_setCell_other _ _ _ _ (addr_ne (by omega)), World.cell?_setCell_other _ _ _ _ (addr_ne (by omega)), World.cell?_setCell_other _ _ _ _ (addr_ne (by omega)), hf.logs a ha]
      by_cases h0 : a = 0
      · subst h0; simp
      · have hne : Gf.lg a ≠ k := fun e => h1 (by rw [← e, Gf.pw_lg a ha h0])
        by_cases h3 : Gf.lg a < k
        · rw [if_pos ⟨h0, h3⟩, if_pos ⟨h0, by omega⟩]
        · rw [if_neg (fun h => h3 h.2), if_neg (fun h => by omega)]
  · have := hf.thawed o ho
    simpa using this
  · have := hf.size
    simpa [World.setCell] using this

/-- The block b of w holds a field's tables. -/
structure FieldAt (w : World) (b : Nat) : Prop where
  powers : ∀ i, i < 510 → w.cell? ⟨b, i, none⟩ = some (.int .u8 (Gf.pw i))
  logs : ∀ a, a < 256 → w.cell? ⟨b, 510 + a, none⟩ = some (.int .u8 (Gf.lg a))

theorem Filled.field {w : World} {B : Nat} (h : Filled w B 255) : FieldAt w B := by
  refine ⟨fun i hi => ?_, fun a ha => ?_⟩
  · rw [h.powers i hi, if_pos (by omega)]
  · rw [h.logs a ha]
    have := Gf.lg_lt a ha
    by_cases h0 : a = 0
    · subst h0; rw [if_neg (by simp), Gf.lg_zero]
    · rw [if_pos ⟨h0, this⟩]
theorem FieldAt.below {w w' : World} {b B : Nat} (h : FieldAt w b) (hb : Below B w w') (hB : b < B) : FieldAt w' b :=
  ⟨fun i hi => (hb.cell (p := ⟨b, i, none⟩) hB).trans (h.powers i hi), fun a ha => (hb.cell (p := ⟨b, 510 + a, none⟩) hB).trans (h.logs a ha)⟩
theorem FieldAt.drewN {w : World} {b : Nat} (h : FieldAt w b) (n : Nat) : FieldAt (w.drewN n) b := ⟨h.powers, h.logs⟩
theorem FieldAt.lt {w : World} {b : Nat} (h : FieldAt w b) : b < w.heap.size := by
  by_cases g : b < w.heap.size
  · exact g
  · exfalso
    have := h.powers 0 (by omega)
    simp [World.cell?, g] at this

set_option maxRecDepth 100000 in
set_option maxHeartbeats 400000 in
theorem new_any (w : World) :
    Calls Try.prog 9 #[] w fun e w' => e = .returned (.pointer (some ⟨w.heap.size, 0, none⟩)) ∧ Below w.heap.size w w' ∧ FieldAt w' w.heap.size ∧ w'.heap.size = w.heap.size + 1 := by
  have hz := fun w => zero_field w
  go_enter Try.func9, Try.ntmps9
  go_wp2_with fail
  clear hz
  go_loopw [2, 6] (fun p i wr => ∃ k : Nat, k ≤ 255 ∧ i = .int .i64 k ∧ p = .int .u8 (Gf.pw k) ∧ Filled wr w.heap.size k ∧ Below w.heap.size w wr) (fun _ i _ => 255 - (intOf i).toNat)
  case atStart => exact ⟨0, Nat.zero_le _, rfl, by rw [Gf.pw_zero]; rfl, Filled.start w, (Below.refl _ _).alloc (Nat.le_refl _) _⟩
  case round =>
    obtain ⟨k, hk, rfl, rfl, hf, hb⟩ := hrel
    by_cases hlt : k < 255
    · obtain ⟨q, hq⟩ : ∃ q, q = Gf.pw k := ⟨_, rfl⟩
      have hp : q < 256 := by rw [hq]; exact Gf.pw_lt k
      obtain ⟨v1, c1⟩ : ∃ v, wr.cell? ⟨w.heap.size, k, none⟩ = some v := ⟨_, hf.powers k (by omega)⟩
      obtain ⟨v2, c2⟩ : ∃ v, wr.cell? ⟨w.heap.size, k + 255, none⟩ = some v := ⟨_, hf.powers (k + 255) (by omega)⟩
      obtain ⟨v3, c3⟩ : ∃ v, wr.cell? ⟨w.heap.size, 510 + q, none⟩ = some v := ⟨_, hf.logs q hp⟩
      have f1 := hf.thawed k (by omega)
      have f2 := hf.thawed (k + 255) (by omega)
      have f3 := hf.thawed (510 + q) (by omega)
      rw [← hq]
      have HQ : Hid (q = Gf.pw k) := hq
      clear hq
      go_wp2_with fail
      go_region
      go_wp2_with (go_at_call 21; refine (double_any _ hp _).mono ?_; rintro e w' ⟨rfl, rfl⟩)
      go_roundw
      case rel =>
        have hq := HQ.out
        subst hq
        exact ⟨k + 1, by omega, by go_num, by rw [Gf.pw_succ], hf.step hlt, (((hb.setCell (Nat.le_refl _) _).setCell (Nat.le_refl _) _).setCell (Nat.le_refl _) _).drew⟩
      case measure => simp [intOf]; omega
    · have hk' : k = 255 := by omega
      subst hk'
      go_wp2
      go_ret
      exact ⟨rfl, hb, hf.field, hf.size⟩

set_option maxRecDepth 100000 in
set_option maxHeartbeats 400000 in
theorem made_yes (b : Nat) (w : World) (h : FieldAt w b) :
    Calls Try.prog 48 #[.pointer (some ⟨b, 0, none⟩)] w fun e w' => e = .returned (.bool true) ∧ w' = w := by
  have h0 : w.cell? ⟨b, 0, none⟩ = some (.int .u8 1) := h.powers 0 (by omega)
  clear h
  go_enter Try.func48, Try.ntmps48
  go_wp2
  go_ret
  exact ⟨rfl, rfl⟩

set_option maxRecDepth 100000 in
set_option maxHeartbeats 400000 in
theorem product_zero (p : Value) (a c : Nat) (w : World) (h : a = 0 ∨ c = 0) :
    Calls Try.prog 50 #[p, .int .u8 a, .int .u8 c] w fun e w' => e = .returned (.int .u8 0) ∧ w' = w := by
  by_cases ha : a = 0
  · subst ha
    clear h
    go_enter Try.func50, Try.ntmps50
    go_wp2
    go_ret
    exact ⟨rfl, rfl⟩
  · have hc : c = 0 := by omega
    subst hc
    have ha' : ((a : Int) == 0) = false := by simp; omega
    clear h ha
    go_enter Try.func50, Try.ntmps50
    go_wp2
    go_ret
    exact ⟨rfl, rfl⟩

set_option maxRecDepth 100000 in
set_option maxHeartbeats 400000 in
theorem product_ne (b a c : Nat) (w : World) (h : FieldAt w b) (ha : a < 256) (hc : c < 256) (ha0 : a ≠ 0) (hc0 : c ≠ 0) :
    Calls Try.prog 50 #[.pointer (some ⟨b, 0, none⟩), .int .u8 a, .int .u8 c] w fun e w' => e = .returned (.int .u8 (Gf.pw (Gf.lg a + Gf.lg c))) ∧ ∃ n, w' = w.drewN n := by
  have hx := Gf.lg_lt a ha
  have hy := Gf.lg_lt c hc
  have c1 := h.logs a ha
  have c2 := h.logs c hc
  have c3 := h.powers (Gf.lg a + Gf.lg c) (by omega)
  have ha' : ((a : Int) == 0) = false := by simp; omega
  have hc' : ((c : Int) == 0) = false := by simp; omega
  generalize Gf.lg a = x at *
  generalize Gf.lg c = y at *
  generalize Gf.pw (x + y) = z at *
  clear h ha0 hc0
  have ha2 : (a : Int) < 256 := by omega
  have hc2 : (c : Int) < 256 := by omega
  go_enter Try.func50, Try.ntmps50
  go_wp2
  go_quiet (fail)
  go_wp2
  go_ret
  exact ⟨rfl, nq, rfl⟩

theorem product_any (b a c : Nat) (w : World) (h : FieldAt w b) (ha : a < 256) (hc : c < 256) :
    Calls Try.prog 50 #[.pointer (some ⟨b, 0, none⟩), .int .u8 a, .int .u8 c] w fun e w' => e = .returned (.int .u8 (Gf.mul a c)) ∧ ∃ n, w' = w.drewN n := by
  by_cases h0 : a = 0 ∨ c = 0
  · refine (product_zero _ a c w h0).mono ?_
    rintro e w' ⟨rfl, rfl⟩
    refine ⟨?_, 0, rfl⟩
    unfold Gf.mul; rw [if_pos h0]; rfl
  · refine (product_ne b a c w h ha hc (fun g => h0 (.inl g)) (fun g => h0 (.inr g))).mono ?_
    rintro e w' ⟨rfl, n, rfl⟩
    refine ⟨?_, n, rfl⟩
    unfold Gf.mul; rw [if_neg h0]

set_option maxRecDepth 100000 in
set_option maxHeartbeats 400000 in
theorem inv_zero (b : Nat) (w : World) (h : FieldAt w b) :
    Calls Try.prog 41 #[.pointer (some ⟨b, 0, none⟩), .int .u8 0] w fun e w' => e = .returned (.tuple #[.int .u8 0, .bool false]) ∧ w' = w := by
  go_enter Try.func41, Try.ntmps41
  go_wp2_with (go_at_call 48; refine (made_yes b _ h).mono ?_; rintro e w' ⟨rfl, rfl⟩)
  go_ret2
  exact ⟨rfl, rfl⟩

set_option maxRecDepth 100000 in
set_option maxHeartbeats 400000 in
theorem inv_ne (b a : Nat) (w : World) (h : FieldAt w b) (ha : a < 256) (ha0 : a ≠ 0) :
    Calls Try.prog 41 #[.pointer (some ⟨b, 0, none⟩), .int .u8 a] w fun e w' => e = .returned (.tuple #[.int .u8 (Gf.inv a), .bool true]) ∧ ∃ n, w' = w.drewN n := by
  have hx := Gf.lg_lt a ha
  have c1 := h.logs a ha
  have c3 := h.powers (255 - Gf.lg a) (by omega)
  have ha' : ((a : Int) == 0) = false := by simp; omega
  have HI : Hid (Gf.inv a = Gf.pw (255 - Gf.lg a)) := by show Gf.inv a = _; unfold Gf.inv; rw [if_neg ha0]
  rw [HI.out]
  clear HI
  generalize Gf.lg a = x at *
  generalize Gf.pw (255 - x) = z at *
  obtain ⟨y, hy⟩ : ∃ y, y = 255 - x := ⟨_, rfl⟩
  rw [← hy] at c3
  have hxy : (255 : Int) - (x : Int) = (y : Int) := by omega
  have hy2 : y ≤ 255 := by omega
  clear ha0 hy
  have ha2 : (a : Int) < 256 := by omega
  go_enter Try.func41, Try.ntmps41
  go_wp2_with (go_at_call 48; refine (made_yes b _ h).mono ?_; rintro e w' ⟨rfl, rfl⟩)
  go_quiet (fail)
  go_wp2
  go_ret2
  exact ⟨rfl, nq, rfl⟩

theorem exp_index (n : Int) : 1 ≤ n.tmod 255 + 255 ∧ n.tmod 255 + 255 ≤ 509 := by
  have h1 := Int.lt_tmod_of_pos n (show (0 : Int) < 255 by decide)
  have h2 := Int.tmod_lt_of_pos n (show (0 : Int) < 255 by decide)
  omega
theorem exp_eq (n : Int) : Gf.pw (n.tmod 255 + 255).toNat = Gf.pw (n % 255).toNat := by
  refine Gf.pw_congr _ _ ?_
  have := exp_index n
  have h3 := Int.mul_tdiv_add_tmod n 255
  omega

end Go.Proofs.Ythlidbenhlidjaa

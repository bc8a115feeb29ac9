/-
  Contracts of package field of the program: what New, Mul, Inv, Div, Exp and Log answer, in terms of the tables of Gf.
-/
import Derived.Test.YtdlalcbcgdambaaRows
import Derived.Test.YtdlalcbcgdambaaGf
import Derived.WalkKit
import Derived.WalkSpells
import Derived.WalkLawsBesides
import Derived.Deep.QuietTactic
import Derived.BigQuiet
import Derived.BigRegion
import Derived.Laws.BitsAllLaws
namespace Go.Proofs.Ytdlalcbcgdambaa
open Go.RowKit

theorem dbl_hi (n : Nat) (hn : n < 256) : (bits .and .i64 ((n : Int) * 2) 256 != 0) = decide (128 ≤ n) := by
  have := Gf.all_of (n := 256) (p := fun n => (bits .and .i64 ((n : Int) * 2) 256 != 0) == decide (128 ≤ n)) (by decide +kernel) n hn
  simpa using this
theorem dbl_yes (n : Nat) (hn : n < 256) (h : 128 ≤ n) : bits .xor .i64 ((n : Int) * 2) 285 % 256 = (Gf.dbl n : Int) := by
  have := Gf.all_of (n := 256) (p := fun n => decide (n < 128) || bits .xor .i64 ((n : Int) * 2) 285 % 256 == (Gf.dbl n : Int)) (by decide +kernel) n hn
  simpa [show ¬ n < 128 by omega] using this
theorem ret_int {k : IntKind} {a b : Int} (h : a = b) : Ending.returned (.int k a) = .returned (.int k b) := by rw [h]

def zeros : Array Value := Array.replicate 766 (.int .u8 0)
/-- The block B of w holds the tables of New behind k rounds. -/
structure Filled (w : World) (B k : Nat) : Prop where
  powers : ∀ i, i < 510 → w.cell? ⟨B, i, none⟩ = some (.int .u8 ((if i % 255 < k then Gf.pw i else 0 : Nat) : Int))
  logs : ∀ a, a < 256 → w.cell? ⟨B, 510 + a, none⟩ = some (.int .u8 ((if a ≠ 0 ∧ Gf.lg a < k then Gf.lg a else 0 : Nat) : Int))
  thawed : ∀ o, o < 766 → w.frozen? ⟨B, o, none⟩ = false
  size : w.heap.size = B + 1


theorem zeros_get (i : Nat) (h : i < 766) : zeros[i]? = some (.int .u8 0) := by
  unfold zeros; rw [Array.getElem?_replicate, if_pos h]

theorem addr_ne {B x y : Nat} (h : x ≠ y) : (⟨B, x, none⟩ : Addr) ≠ ⟨B, y, none⟩ := fun e => h (Addr.mk.inj e).2.1

theorem Filled.step {w : World} {B k : Nat} (hf : Filled w B k) (hk : k < 255) :
    Filled (((w.setCell ⟨B, k, none⟩ (.int .u8 (Gf.pw k))).setCell ⟨B, k + 255, none⟩ (.int .u8 (Gf.pw k))).setCell ⟨B, 510 + Gf.pw k, none⟩ (.int .u8 k)).drew B (k + 1) := by
  have hp := Gf.pw_lt k
  refine ⟨fun i hi => ?_, fun a ha => ?_, fun o ho => ?_, ?_⟩
  · rw [World.cell?_drew, World.cell?_setCell_other _ _ _ _ (addr_ne (by omega))]
    by_cases h2 : i = k + 255
    · subst h2
      rw [World.cell?_setCell_same _ _ _ (by rw [World.cell?_setCell_other _ _ _ _ (addr_ne (by omega))]; exact hf.powers _ hi), if_pos (by omega), Gf.pw_add255]
    · rw [World.cell?_setCell_other _ _ _ _ (addr_ne (by omega))]
      by_cases h1 : i = k
      · subst h1
        rw [World.cell?_setCell_same _ _ _ (hf.powers _ hi), if_pos (by omega)]
      · rw [World.cell?_setCell_other _ _ _ _ (addr_ne (by omega)), hf.powers i hi]
        by_cases h3 : i % 255 < k
        · rw [if_pos h3, if_pos (by omega)]
        · rw [if_neg h3, if_neg (by omega)]
  · rw [World.cell?_drew]
    by_cases h1 : a = Gf.pw k
    · rw [h1, World.cell?_setCell_same _ _ _ (by rw [World.cell?_setCell_other _ _ _ _ (addr_ne (by omega)), World.cell?_setCell_other _ _ _ _ (addr_ne (by omega))]; exact hf.logs _ hp), Gf.lg_pw_small k hk, if_pos ⟨Gf.pw_pos k, by omega⟩]
    · rw [World.cell?_setCell_other _ _ _ _ (addr_ne (by omega)), World.cell?_setCell_other _ _ _ _ (addr_ne (by omega)), World.cell?_setCell_other _ _ _ _ (addr_ne (by omega)), hf.logs a ha]
      by_cases h0 : a = 0
      · subst h0; simp
      · have hne : Gf.lg a ≠ k := fun e => h1 (by rw [← e, Gf.pw_lg a ha h0])
        by_cases h3 : Gf.lg a < k
        · rw [if_pos ⟨h0, h3⟩, if_pos ⟨h0, by omega⟩]
        · rw [if_neg (fun h => h3 h.2), if_neg (fun h => by omega)]
  · have := hf.thawed o ho
    simpa using this
  · have := hf.size
    simpa [World.setCell] using this

/-- The block b of w holds a field's tables. -/
structure FieldAt (w : World) (b : Nat) : Prop where
  powers : ∀ i, i < 510 → w.cell? ⟨b, i, none⟩ = some (.int .u8 (Gf.pw i))
  logs : ∀ a, a < 256 → w.cell? ⟨b, 510 + a, none⟩ = some (.int .u8 (Gf.lg a))

theorem Filled.field {w : World} {B : Nat} (h : Filled w B 255) : FieldAt w B := by
  refine ⟨fun i hi => ?_, fun a ha => ?_⟩
  · rw [h.powers i hi, if_pos (by omega)]
  · rw [h.logs a ha]
    have := Gf.lg_lt a ha
    by_cases h0 : a = 0
    · subst h0; rw [if_neg (by simp), Gf.lg_zero]
    · rw [if_pos ⟨h0, this⟩]
theorem FieldAt.below {w w' : World} {b B : Nat} (h : FieldAt w b) (hb : Below B w w') (hB : b < B) : FieldAt w' b :=
  ⟨fun i hi => (hb.cell (p := ⟨b, i, none⟩) hB).trans (h.powers i hi), fun a ha => (hb.cell (p := ⟨b, 510 + a, none⟩) hB).trans (h.logs a ha)⟩
theorem FieldAt.drewN {w : World} {b : Nat} (h : FieldAt w b) (n : Nat) : FieldAt (w.drewN n) b := ⟨h.powers, h.logs⟩
theorem FieldAt.lt {w : World} {b : Nat} (h : FieldAt w b) : b < w.heap.size := by
  by_cases g : b < w.heap.size
  · exact g
  · exfalso
    have := h.powers 0 (by omega)
    simp [World.cell?, g] at this

theorem exp_index (n : Int) : 1 ≤ n.tmod 255 + 255 ∧ n.tmod 255 + 255 ≤ 509 := by
  have h1 := Int.lt_tmod_of_pos n (show (0 : Int) < 255 by decide)
  have h2 := Int.tmod_lt_of_pos n (show (0 : Int) < 255 by decide)
  omega
theorem exp_eq (n : Int) : Gf.pw (n.tmod 255 + 255).toNat = Gf.pw (n % 255).toNat := by
  refine Gf.pw_congr _ _ ?_
  have := exp_index n
  have h3 := Int.mul_tdiv_add_tmod n 255
  omega

end Go.Proofs.Ytdlalcbcgdambaa

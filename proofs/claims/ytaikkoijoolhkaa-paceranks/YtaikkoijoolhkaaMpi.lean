/-
  Maps of the call's own: from IDs to places, from IDs to marks.
-/
import Derived.Maps.OwnSet
import Derived.Test.YtaikkoijoolhkaaMem
namespace Go.Proofs.Ytaikkoijoolhkaa
open Go.RowKit Go.Deep Go.Maps

theorem u32_wf (x : Nat) (h : x < 4294967296) : (Lit.int .u32 (x : Int)).wf = true := WalkArith.wf_u32 (by omega)
theorem i64_wf (q : Nat) (h : q ≤ 1000000) : (Lit.int .i64 (q : Int)).wf = true := WalkArith.wf_i64 (by omega)
theorem Try.keyU32 : Keyed Try.prog 30 := int_keyed Try.underlying30
theorem Try.zeroInt (w : World) : (zeroValue 3).run Try.prog w = .ok (.int .i64 0) w := by kernel_rfl
theorem Try.zeroBool (w : World) : (zeroValue 4).run Try.prog w = .ok (.bool false) w := by kernel_rfl
theorem key_u32 (x : Nat) (h : x < 4294967296) : keyOf Try.prog 30 (.int .u32 (x : Int)) = some (.int .u32 (x : Int)) := keyOf_int_mk Try.underlying30 (u32_wf x h)
theorem lit_ne {x y : Nat} (h : x ≠ y) : (Lit.int .u32 (x : Int)) ≠ .int .u32 (y : Int) := fun e => h (by injection e with _ e; omega)
theorem plainElem_bool_inv {P : Program} {e : TypeId} (he : P.underlying e = some .bool) {v : Value} {z : DataW Unit × List MemPlace} (h : plainElem P e v = some z) : ∃ b, v = .bool b ∧ z = (.lit (.bool b), []) := by
  unfold plainElem at h
  rw [he] at h
  cases v <;> simp at h
  exact ⟨_, rfl, h.symm⟩

theorem make_hint (n : Int) (w : World) : (Instr.makeMap 62 (some (.int .i64 n))).run Try.prog w = .ok (.map (some w.heap.size)) (w.alloc (.map #[] 0)) := by
  simp [Instr.makeMap, run_underlying Try.underlying62, asInt, asIntOf, Result.andThen]
/-- Block b is a map from IDs to places, of k entries at most: F tells the place. -/
def IdxAt (w : World) (b k : Nat) (F : Nat → Option Nat) : Prop :=
  ∃ D : DataW Unit, w.ownsMap Try.prog 30 (plainElem Try.prog 3) b k D ∧ ∀ x : Nat, x < 4294967296 → Maps.has D (.int .u32 (x : Int)) = (F x).isSome ∧ ∀ q, F x = some q → D.atKey (.int .u32 (x : Int)) (.lit (.int .i64 0)) = .lit (.int .i64 (q : Int))
theorem IdxAt.made (w : World) : IdxAt (w.alloc (.map #[] 0)) w.heap.size 0 (fun _ => none) :=
  ⟨_, World.ownsMap_made w _ _ _, fun _ _ => ⟨rfl, fun _ h => by cases h⟩⟩
theorem IdxAt.lt {w : World} {b k : Nat} {F : Nat → Option Nat} (h : IdxAt w b k F) : b < w.heap.size := by
  obtain ⟨D, h, -⟩ := h
  exact h.lt
theorem IdxAt.kept {w w' : World} {b k : Nat} {F : Nat → Option Nat} {row : Option Nat} (h : IdxAt w b k F) (hg : w.grownBy w' row) (hne : some b ≠ row) : IdxAt w' b k F := by
  obtain ⟨D, h, hf⟩ := h
  exact ⟨D, h.kept hg hne, hf⟩
theorem IdxAt.below {w w' : World} {b k B : Nat} {F : Nat → Option Nat} (h : IdxAt w b k F) (hb : Below B w w') (hB : w.heap.size ≤ B) : IdxAt w' b k F :=
  h.kept (row := none) ⟨hb.os, hb.tape, hb.output, hb.size, fun i hi _ => hb.block i (Nat.lt_of_lt_of_le hi hB)⟩ (by simp)
theorem IdxAt.congr {w : World} {b k : Nat} {F G : Nat → Option Nat} (h : IdxAt w b k F) (e : ∀ x, F x = G x) : IdxAt w b k G := by
  have : F = G := funext e
  rw [← this]
  exact h
theorem IdxAt.found {w : World} {b k x q : Nat} {F : Nat → Option Nat} (h : IdxAt w b k F) (hx : x < 4294967296) (hq : F x = some q) :
    (Instr.lookup 62 (.map (some b)) (.int .u32 (x : Int)) true).run Try.prog w = .ok (.tuple #[.int .i64 (q : Int), .bool true]) w := by
  obtain ⟨D, h, hf⟩ := h
  obtain ⟨v, ps, hrun, hv⟩ := h.look_ok Try.keyU32 Try.underlying62 (Try.zeroInt w) (plainElem_int Try.underlying3 (by decide)) (key_u32 x hx)
  obtain ⟨f1, f2⟩ := hf x hx
  obtain ⟨c, rfl, hc, -⟩ := plainElem_int_inv Try.underlying3 hv
  rw [hq] at f1
  rw [f2 q hq] at hc
  rw [f1] at hrun
  have : (q : Int) = c := by simp at hc; exact hc.1
  rw [this]
  exact hrun
theorem IdxAt.none {w : World} {b k x : Nat} {F : Nat → Option Nat} (h : IdxAt w b k F) (hx : x < 4294967296) (hq : F x = none) :
    (Instr.lookup 62 (.map (some b)) (.int .u32 (x : Int)) true).run Try.prog w = .ok (.tuple #[.int .i64 0, .bool false]) w := by
  obtain ⟨D, h, hf⟩ := h
  obtain ⟨v, ps, hrun, hv⟩ := h.look_ok Try.keyU32 Try.underlying62 (Try.zeroInt w) (plainElem_int Try.underlying3 (by decide)) (key_u32 x hx)
  obtain ⟨f1, f2⟩ := hf x hx
  obtain ⟨c, rfl, hc, -⟩ := plainElem_int_inv Try.underlying3 hv
  rw [hq] at f1
  have f3 : Maps.has D (.int .u32 (x : Int)) = false := f1
  rw [atKey_of_not_has f3] at hc
  rw [f3] at hrun
  have : (0 : Int) = c := by simp at hc; exact hc.1
  rw [this]
  exact hrun
theorem IdxAt.plain {w : World} {b k x q : Nat} {F : Nat → Option Nat} (h : IdxAt w b k F) (hx : x < 4294967296) (hq : F x = some q) :
    (Instr.lookup 62 (.map (some b)) (.int .u32 (x : Int)) false).run Try.prog w = .ok (.int .i64 (q : Int)) w := by
  obtain ⟨D, h, hf⟩ := h
  obtain ⟨c, hrun, hc, -⟩ := h.lookup_int Try.keyU32 Try.underlying62 Try.underlying3 (Try.zeroInt w) (key_u32 x hx)
  obtain ⟨f1, f2⟩ := hf x hx
  rw [f2 q hq] at hc
  have : (q : Int) = c := by simpa using hc
  rw [this]
  exact hrun
theorem IdxAt.put {w : World} {b k x q : Nat} {F : Nat → Option Nat} (h : IdxAt w b k F) (hx : x < 4294967296) (hq : q ≤ 1000000) (hk : k ≤ 1000000) :
    ∃ w', (Instr.mapUpdate 62 (.map (some b)) (.int .u32 (x : Int)) (.int .i64 (q : Int))).run Try.prog w = .ok () w' ∧ IdxAt w' b (k + 1) (fun y => if y = x then some q else F y) ∧ w.grownBy w' (some b) := by
  obtain ⟨D, h, hf⟩ := h
  obtain ⟨w', hrun, ho, hg⟩ := h.update Try.keyU32 Try.underlying62 (by unfold maxLen; omega) (key_u32 x hx) (plainElem_int Try.underlying3 (i64_wf q hq))
  refine ⟨w', hrun, ⟨_, ho, fun y hy => ?_⟩, hg⟩
  obtain ⟨f1, f2⟩ := hf y hy
  by_cases e : y = x
  · subst e
    refine ⟨?_, fun q' hq' => ?_⟩
    · rw [has_put_same h.isMap (Try.keyU32.key (key_u32 y hy))]
      simp
    · rw [atKey_put_same h.isMap (Try.keyU32.key (key_u32 y hy))]
      have : q = q' := by simpa using hq'
      rw [this]
  · have ne := lit_ne e
    refine ⟨?_, fun q' hq' => ?_⟩
    · rw [has_put_other ne, f1]
      simp only [if_neg e]
    · rw [atKey_put_other ne]
      simp only [if_neg e] at hq'
      exact f2 q' hq'

end Go.Proofs.Ytaikkoijoolhkaa

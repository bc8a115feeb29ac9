/-
  Maps of the call's own: from IDs to places, from IDs to marks.
-/
import Derived.Maps.OwnSet
import Derived.Test.YtjmfhkpaloipkaaEnt
namespace Go.Proofs.Ytjmfhkpaloipkaa
open Go.RowKit Go.Deep Go.Maps

theorem Try.zeroInt (w : World) : (zeroValue 3).run Try.prog w = .ok (.int .i64 0) w := by kernel_rfl
theorem Try.zeroBool (w : World) : (zeroValue 4).run Try.prog w = .ok (.bool false) w := by kernel_rfl
theorem plainElem_bool_inv {P : Program} {e : TypeId} (he : P.underlying e = some .bool) {v : Value} {z : DataW Unit × List MemPlace} (h : plainElem P e v = some z) : ∃ b, v = .bool b ∧ z = (.lit (.bool b), []) := by
  unfold plainElem at h
  rw [he] at h
  cases v <;> simp at h
  exact ⟨_, rfl, h.symm⟩

theorem make_hint (n : Int) (w : World) : (Instr.makeMap 43 (some (.int .i64 n))).run Try.prog w = .ok (.map (some w.heap.size)) (w.alloc (.map #[] 0)) := by
  simp [Instr.makeMap, run_underlying Try.underlying43, asInt, asIntOf, Result.andThen]
/-- Block b is a map from IDs to places, of k entries at most: F tells the place. -/
def IdxAt (w : World) (b k : Nat) (F : Nat → Option Nat) : Prop :=
  ∃ D : DataW Unit, w.ownsMap Try.prog 28 (plainElem Try.prog 3) b k D ∧ ∀ x : Nat, x < 4294967296 → Maps.has D (.int .u32 (x : Int)) = (F x).isSome ∧ ∀ q, F x = some q → D.atKey (.int .u32 (x : Int)) (.lit (.int .i64 0)) = .lit (.int .i64 (q : Int))
theorem IdxAt.made (w : World) : IdxAt (w.alloc (.map #[] 0)) w.heap.size 0 (fun _ => none) :=
  ⟨_, World.ownsMap_made w _ _ _, fun _ _ => ⟨rfl, fun _ h => by cases h⟩⟩
theorem IdxAt.lt {w : World} {b k : Nat} {F : Nat → Option Nat} (h : IdxAt w b k F) : b < w.heap.size := by
  obtain ⟨D, h, -⟩ := h
  exact h.lt
theorem IdxAt.kept {w w' : World} {b k : Nat} {F : Nat → Option Nat} {row : Option Nat} (h : IdxAt w b k F) (hg : w.grownBy w' row) (hne : some b ≠ row) : IdxAt w' b k F := by
  obtain ⟨D, h, hf⟩ := h
  exact ⟨D, h.kept hg hne, hf⟩
theorem IdxAt.below {w w' : World} {b k B : Nat} {F : Nat → Option Nat} (h : IdxAt w b k F) (hb : Below B w w') (hB : w.heap.size ≤ B) : IdxAt w' b k F :=
  h.kept (row := none) ⟨hb.os, hb.tape, hb.output, hb.size, fun i hi _ => hb.block i (Nat.lt_of_lt_of_le hi hB)⟩ (by simp)
theorem IdxAt.congr {w : World} {b k : Nat} {F G : Nat → Option Nat} (h : IdxAt w b k F) (e : ∀ x, F x = G x) : IdxAt w b k G := by
  have : F = G := funext e
  rw [← this]
  exact h
theorem IdxAt.found {w : World} {b k x q : Nat} {F : Nat → Option Nat} (h : IdxAt w b k F) (hx : x < 4294967296) (hq : F x = some q) :
    (Instr.lookup 43 (.map (some b)) (.int .u32 (x : Int)) true).run Try.prog w = .ok (.tuple #[.int .i64 (q : Int), .bool true]) w := by
  obtain ⟨D, h, hf⟩ := h
  obtain ⟨v, ps, hrun, hv⟩ := h.look_ok Try.keyU32 Try.underlying43 (Try.zeroInt w) (plainElem_int Try.underlying3 (by decide)) (key_u32 x hx)
  obtain ⟨f1, f2⟩ := hf x hx
  obtain ⟨c, rfl, hc, -⟩ := plainElem_int_inv Try.underlying3 hv
  rw [hq] at f1
  rw [f2 q hq] at hc
  rw [f1] at hrun
  have : (q : Int) = c := by simp at hc; exact hc.1
  rw [this]
  exact hrun
theorem IdxAt.none {w : World} {b k x : Nat} {F : Nat → Option Nat} (h : IdxAt w b k F) (hx : x < 4294967296) (hq : F x = none) :
    (Instr.lookup 43 (.map (some b)) (.int .u32 (x : Int)) true).run Try.prog w = .ok (.tuple #[.int .i64 0, .bool false]) w := by
  obtain ⟨D, h, hf⟩ := h
  obtain ⟨v, ps, hrun, hv⟩ := h.look_ok Try.keyU32 Try.underlying43 (Try.zeroInt w) (plainElem_int Try.underlying3 (by decide)) (key_u32 x hx)
  obtain ⟨f1, f2⟩ := hf x hx
  obtain ⟨c, rfl, hc, -⟩ := plainElem_int_inv Try.underlying3 hv
  rw [hq] at f1
  have f3 : Maps.has D (.int .u32 (x : Int)) = false := f1
  rw [atKey_of_not_has f3] at hc
  rw [f3] at hrun
  have : (0 : Int) = c := by simp at hc; exact hc.1
  rw [this]
  exact hrun
theorem IdxAt.plain {w : World} {b k x q : Nat} {F : Nat → Option Nat} (h : IdxAt w b k F) (hx : x < 4294967296) (hq : F x = some q) :
    (Instr.lookup 43 (.map (some b)) (.int .u32 (x : Int)) false).run Try.prog w = .ok (.int .i64 (q : Int)) w := by
  obtain ⟨D, h, hf⟩ := h
  obtain ⟨c, hrun, hc, -⟩ := h.lookup_int Try.keyU32 Try.underlying43 Try.underlying3 (Try.zeroInt w) (key_u32 x hx)
  obtain ⟨f1, f2⟩ := hf x hx
  rw [f2 q hq] at hc
  have : (q : Int) = c := by simpa using hc
  rw [this]
  exact hrun
theorem IdxAt.put {w : World} {b k x q : Nat} {F : Nat → Option Nat} (h : IdxAt w b k F) (hx : x < 4294967296) (hq : q ≤ 1000000) (hk : k ≤ 1000000) :
    ∃ w', (Instr.mapUpdate 43 (.map (some b)) (.int .u32 (x : Int)) (.int .i64 (q : Int))).run Try.prog w = .ok () w' ∧ IdxAt w' b (k + 1) (fun y => if y = x then some q else F y) ∧ w.grownBy w' (some b) := by
  obtain ⟨D, h, hf⟩ := h
  obtain ⟨w', hrun, ho, hg⟩ := h.update Try.keyU32 Try.underlying43 (by unfold maxLen; omega) (key_u32 x hx) (plainElem_int Try.underlying3 (i64_wf q hq))
  refine ⟨w', hrun, ⟨_, ho, fun y hy => ?_⟩, hg⟩
  obtain ⟨f1, f2⟩ := hf y hy
  by_cases e : y = x
  · subst e
    refine ⟨?_, fun q' hq' => ?_⟩
    · rw [has_put_same h.isMap (Try.keyU32.key (key_u32 y hy))]
      simp
    · rw [atKey_put_same h.isMap (Try.keyU32.key (key_u32 y hy))]
      have : q = q' := by simpa using hq'
      rw [this]
  · have ne := lit_ne e
    refine ⟨?_, fun q' hq' => ?_⟩
    · rw [has_put_other ne, f1]
      simp only [if_neg e]
    · rw [atKey_put_other ne]
      simp only [if_neg e] at hq'
      exact f2 q' hq'
theorem IdxAt.block {w w' : World} {b k : Nat} {F : Nat → Option Nat} (h : IdxAt w b k F) (e : w'.heap[b]? = w.heap[b]?) : IdxAt w' b k F := by
  obtain ⟨D, ⟨es, clock, hb, h⟩, hf⟩ := h
  exact ⟨D, ⟨es, clock, e.trans hb, h⟩, hf⟩
theorem IdxAt.mono {w : World} {b k k' : Nat} {F : Nat → Option Nat} (h : IdxAt w b k F) (e : k ≤ k') : IdxAt w b k' F := by
  obtain ⟨D, h, hf⟩ := h
  exact ⟨D, h.mono e, hf⟩
theorem IdxAt.zero {w : World} {b k x : Nat} {F : Nat → Option Nat} (h : IdxAt w b k F) (hx : x < 4294967296) (hq : F x = Option.none) :
    (Instr.lookup 43 (.map (some b)) (.int .u32 (x : Int)) false).run Try.prog w = .ok (.int .i64 0) w := by
  obtain ⟨D, h, hf⟩ := h
  obtain ⟨c, hrun, hc, -⟩ := h.lookup_int Try.keyU32 Try.underlying43 Try.underlying3 (Try.zeroInt w) (key_u32 x hx)
  obtain ⟨f1, f2⟩ := hf x hx
  rw [hq] at f1
  have f3 : Maps.has D (.int .u32 (x : Int)) = false := f1
  rw [atKey_of_not_has f3] at hc
  have : (0 : Int) = c := by simpa using hc
  rw [this]
  exact hrun
/-- Whether it is there or not. -/
theorem IdxAt.read {w : World} {b k x : Nat} {F : Nat → Option Nat} (h : IdxAt w b k F) (hx : x < 4294967296) :
    (Instr.lookup 43 (.map (some b)) (.int .u32 (x : Int)) false).run Try.prog w = .ok (.int .i64 (((F x).getD 0 : Nat) : Int)) w := by
  cases q : F x with
  | none => exact h.zero hx q
  | some n => exact h.plain hx q
theorem IdxAt.drop {w : World} {b k x : Nat} {F : Nat → Option Nat} (ty : TypeId) (h : IdxAt w b k F) (hx : x < 4294967296) :
    ∃ w', (Builtin.delete_ #[43, 28] ty #[.map (some b), .int .u32 (x : Int)]).run Try.prog w = .ok (.tuple #[]) w' ∧ IdxAt w' b k (fun y => if y = x then Option.none else F y) ∧ w.grownBy w' (some b) ∧ w'.heap.size = w.heap.size := by
  obtain ⟨D, h, hf⟩ := h
  obtain ⟨w', hrun, ho, hg⟩ := h.drop Try.keyU32 Try.underlying43 (key_u32 x hx) ty
  refine ⟨w', hrun, ⟨_, ho, fun y hy => ?_⟩, hg.grown, turned_size hg⟩
  by_cases e : y = x
  · subst e
    rw [Maps.has_del_same]
    simp
  · rw [Maps.has_del_other (lit_ne e), atKey_del_other (lit_ne e)]
    simp only [if_neg e]
    exact hf y hy
/-- A place made ready, and what is stored there once all is reckoned. -/
theorem IdxAt.entry {w : World} {b k x : Nat} {F : Nat → Option Nat} (h : IdxAt w b k F) (hx : x < 4294967296) (hk : k < 1000000) :
    ∃ v0 st w1, (Instr.mapEntry 43 (.map (some b)) (.int .u32 (x : Int))).run Try.prog w = .ok (.tuple #[v0, .int .i64 st]) w1 ∧ w.grownBy w1 (some b) ∧ w1.heap.size = w.heap.size ∧
      ∀ (w2 : World) (q : Nat), q ≤ 1000000 → w2.heap[b]? = w1.heap[b]? → ∃ w3, (Instr.entryStore 43 (.map (some b)) (.int .i64 st) (.int .i64 (q : Int))).run Try.prog w2 = .ok () w3 ∧ IdxAt w3 b (k + 2) (fun y => if y = x then some q else F y) ∧ w2.grownBy w3 (some b) ∧ w3.heap.size = w2.heap.size := by
  have h0 := h
  obtain ⟨D, ⟨es, clock, hb, hF, hs, hD⟩, hf⟩ := h
  obtain ⟨e0, es1, clock1, r1, r2, r3, r4⟩ := entry_at (z := .int .i64 0) Try.keyU32 Try.underlying43 (fun u => Try.zeroInt u) hb hF (key_u32 x hx)
  have ht : w.mapTurned (ChangeMaps.setBlock w b (.map es1 clock1)) b := ⟨es, clock, es1, clock1, hb, rfl⟩
  have hb1 : (ChangeMaps.setBlock w b (.map es1 clock1)).heap[b]? = some (.map es1 clock1) := ChangeMaps.heap_setBlock_same hb _
  have h1 : ∃ F1, IdxAt (ChangeMaps.setBlock w b (.map es1 clock1)) b (k + 1) F1 ∧ ∀ y, y ≠ x → F1 y = F y := by
    rcases r4 with ⟨rfl, rfl⟩ | r4
    · exact ⟨F, (h0.block (hb1.trans hb.symm)).mono (by omega), fun _ _ => rfl⟩
    · obtain ⟨w', hrun, hI, -⟩ := h0.put (q := 0) hx (by omega) (by omega)
      have hrun' : (Instr.mapUpdate 43 (.map (some b)) (.int .u32 (x : Int)) (.int .i64 0)).run Try.prog w = .ok () w' := hrun
      rw [r4] at hrun'
      have ew : ChangeMaps.setBlock w b (.map es1 clock1) = w' := by injection hrun'
      rw [← ew] at hI
      exact ⟨_, hI, fun y hy => if_neg hy⟩
  obtain ⟨F1, hI, hF1⟩ := h1
  refine ⟨e0.val, (e0.born : Int), _, r1, ht.grown, turned_size ht, fun w2 q hq e2 => ?_⟩
  have hI2 := hI.block e2
  obtain ⟨w3, u1, u2, u3⟩ := hI2.put (q := q) hx hq (by omega)
  have hI3 := hI2
  obtain ⟨D2, ⟨es2, clock2, hb2, hF2, -⟩, -⟩ := hI2
  have e3 : Obj.map es2 clock2 = Obj.map es1 clock1 := Option.some.inj (hb2.symm.trans (e2.trans hb1))
  injection e3 with e3 e4
  subst e3 e4
  have sr := store_at Try.keyU32 Try.underlying43 hb2 hF2 (key_u32 x hx) r2 r3 (.int .i64 (q : Int))
  refine ⟨w3, sr.trans u1, u2.congr fun y => ?_, u3, ?_⟩
  · by_cases g : y = x
    · simp only [if_pos g]
    · simp only [if_neg g]; exact hF1 y g
  · obtain ⟨D3, o3, -⟩ := hI3
    obtain ⟨w', hr, -, hg⟩ := o3.store Try.keyU32 Try.underlying43 (by unfold maxLen; omega) (key_u32 x hx) (plainElem_int Try.underlying3 (i64_wf q hq))
    rw [u1] at hr
    have ew : w3 = w' := by injection hr
    rw [ew]
    exact turned_size hg

end Go.Proofs.Ytjmfhkpaloipkaa

/-
  Package tally's memory: maps of numbers, maps of such maps, a row of uint64 that grows.
-/
import Derived.Maps.OwnSet
import Derived.Test.YtalfncnpffbmmaaSa9
namespace Go.Proofs.Ytalfncnpffbmmaa
open Go.RowKit Go.Deep Go.Maps

theorem u64_wf (x : Nat) (h : x < 18446744073709551616) : (Lit.int .u64 (x : Int)).wf = true := WalkArith.wf_u64 (by omega)
theorem Try.keyU64 : Keyed Try.prog 26 := int_keyed Try.underlying26
theorem Try.zeroUnit (w : World) : (zeroValue 45).run Try.prog w = .ok (.agg #[]) w := by kernel_rfl
theorem Try.zeroSet (w : World) : (zeroValue 47).run Try.prog w = .ok (.map none) w := by kernel_rfl
theorem key_u64 (x : Nat) (h : x < 18446744073709551616) : keyOf Try.prog 26 (.int .u64 (x : Int)) = some (.int .u64 (x : Int)) := keyOf_int_mk Try.underlying26 (u64_wf x h)
theorem lit64_ne {x y : Nat} (h : x ≠ y) : (Lit.int .u64 (x : Int)) ≠ .int .u64 (y : Int) := fun e => h (by injection e with _ e; omega)
/-- How an element that is a map reads: by its block's number. -/
def mapElem : Value → Option (DataW Unit × List MemPlace)
  | .map (some b) => some (.lit (.int .i64 (b : Int)), [])
  | .map none => some (.lit (.bool false), [])
  | _ => none
def mapLit : Option Nat → DataW Unit
  | some b => .lit (.int .i64 (b : Int))
  | none => .lit (.bool false)
theorem mapElem_mk (b : Option Nat) : mapElem (.map b) = some (mapLit b, []) := by cases b <;> rfl
theorem mapElem_inv {v : Value} {b : Option Nat} {ps : List MemPlace} (h : mapElem v = some (mapLit b, ps)) : v = .map b := by
  unfold mapElem at h
  cases v <;> try (simp at h; done)
  rename_i c
  cases c with
  | none => cases b with
    | none => rfl
    | some b => simp [mapLit] at h
  | some c => cases b with
    | none => simp [mapLit] at h
    | some b =>
      simp [mapLit] at h
      have := h.1
      rw [show c = b by omega]

theorem turned_size {w w' : World} {b : Nat} (h : w.mapTurned w' b) : w'.heap.size = w.heap.size := by
  obtain ⟨es, clock, es', clock', -, rfl⟩ := h
  show (Array.setIfInBounds _ _ _).size = _
  rw [Array.size_setIfInBounds]
/-- Block b is a map of struct{}: S tells which numbers are in it. -/
def SetAt (w : World) (b k : Nat) (S : Nat → Bool) : Prop :=
  ∃ D : DataW Unit, w.ownsMap Try.prog 26 unitElem b k D ∧ ∀ x : Nat, x < 18446744073709551616 → Maps.has D (.int .u64 (x : Int)) = S x
theorem SetAt.made (w : World) : SetAt (w.alloc (.map #[] 0)) w.heap.size 0 (fun _ => false) := ⟨_, World.ownsMap_made w _ _ _, fun _ _ => rfl⟩
theorem SetAt.lt {w : World} {b k : Nat} {S : Nat → Bool} (h : SetAt w b k S) : b < w.heap.size := by
  obtain ⟨D, h, -⟩ := h
  exact h.lt
theorem SetAt.block {w w' : World} {b k : Nat} {S : Nat → Bool} (h : SetAt w b k S) (e : w'.heap[b]? = w.heap[b]?) : SetAt w' b k S := by
  obtain ⟨D, ⟨es, clock, hb, h⟩, hf⟩ := h
  exact ⟨D, ⟨es, clock, e.trans hb, h⟩, hf⟩
theorem SetAt.look {w : World} {b k x : Nat} {S : Nat → Bool} (h : SetAt w b k S) (hx : x < 18446744073709551616) :
    (Instr.lookup 47 (.map (some b)) (.int .u64 (x : Int)) true).run Try.prog w = .ok (.tuple #[.agg #[], .bool (S x)]) w := by
  obtain ⟨D, h, hf⟩ := h
  obtain ⟨v, ps, hrun, hv⟩ := h.look_ok Try.keyU64 Try.underlying47 (Try.zeroUnit w) unitElem_mk (key_u64 x hx)
  obtain ⟨rfl, -⟩ := unitElem_inv hv
  rw [hf x hx] at hrun
  exact hrun
theorem set_nil (w : World) (x : Nat) (hx : x < 18446744073709551616) :
    (Instr.lookup 47 (.map none) (.int .u64 (x : Int)) true).run Try.prog w = .ok (.tuple #[.agg #[], .bool false]) w :=
  Maps.look_nil true Try.keyU64 Try.underlying47 (Try.zeroUnit w) (key_u64 x hx)
theorem SetAt.put {w : World} {b k x : Nat} {S : Nat → Bool} (h : SetAt w b k S) (hx : x < 18446744073709551616) (hk : k ≤ 1000000) :
    ∃ w', (Instr.mapUpdate 47 (.map (some b)) (.int .u64 (x : Int)) (.agg #[])).run Try.prog w = .ok () w' ∧ SetAt w' b (k + 1) (fun y => if y = x then true else S y) ∧ w.grownBy w' (some b) ∧ w'.heap.size = w.heap.size := by
  obtain ⟨D, h, hf⟩ := h
  obtain ⟨w', hrun, ho, hg⟩ := h.store Try.keyU64 Try.underlying47 (by unfold maxLen; omega) (key_u64 x hx) unitElem_mk
  refine ⟨w', hrun, ⟨_, ho, fun y hy => ?_⟩, hg.grown, turned_size hg⟩
  by_cases e : y = x
  · subst e
    rw [has_put_same h.isMap (Try.keyU64.key (key_u64 y hy))]
    simp only [if_pos]
  · rw [has_put_other (lit64_ne e)]
    simp only [if_neg e]
    exact hf y hy

/-- Block b is a map of such maps: F tells which. -/
def HalfAt (w : World) (b k : Nat) (F : Nat → Option Nat) : Prop :=
  ∃ D : DataW Unit, w.ownsMap Try.prog 26 mapElem b k D ∧ ∀ x : Nat, x < 18446744073709551616 → D.atKey (.int .u64 (x : Int)) (mapLit none) = mapLit (F x)
theorem HalfAt.made (w : World) : HalfAt (w.alloc (.map #[] 0)) w.heap.size 0 (fun _ => none) := ⟨_, World.ownsMap_made w _ _ _, fun _ _ => rfl⟩
theorem HalfAt.lt {w : World} {b k : Nat} {F : Nat → Option Nat} (h : HalfAt w b k F) : b < w.heap.size := by
  obtain ⟨D, h, -⟩ := h
  exact h.lt
theorem HalfAt.block {w w' : World} {b k : Nat} {F : Nat → Option Nat} (h : HalfAt w b k F) (e : w'.heap[b]? = w.heap[b]?) : HalfAt w' b k F := by
  obtain ⟨D, ⟨es, clock, hb, h⟩, hf⟩ := h
  exact ⟨D, ⟨es, clock, e.trans hb, h⟩, hf⟩
theorem HalfAt.look {w : World} {b k x : Nat} {F : Nat → Option Nat} (h : HalfAt w b k F) (hx : x < 18446744073709551616) :
    (Instr.lookup 38 (.map (some b)) (.int .u64 (x : Int)) false).run Try.prog w = .ok (.map (F x)) w := by
  obtain ⟨D, h, hf⟩ := h
  obtain ⟨v, ps, hrun, hv⟩ := h.lookup Try.keyU64 Try.underlying38 (Try.zeroSet w) (mapElem_mk none) (key_u64 x hx)
  rw [hf x hx] at hv
  rw [hrun, mapElem_inv hv]
theorem HalfAt.put {w : World} {b k x q : Nat} {F : Nat → Option Nat} (h : HalfAt w b k F) (hx : x < 18446744073709551616) (hk : k ≤ 1000000) :
    ∃ w', (Instr.mapUpdate 38 (.map (some b)) (.int .u64 (x : Int)) (.map (some q))).run Try.prog w = .ok () w' ∧ HalfAt w' b (k + 1) (fun y => if y = x then some q else F y) ∧ w.grownBy w' (some b) ∧ w'.heap.size = w.heap.size := by
  obtain ⟨D, h, hf⟩ := h
  obtain ⟨w', hrun, ho, hg⟩ := h.store Try.keyU64 Try.underlying38 (by unfold maxLen; omega) (key_u64 x hx) (mapElem_mk (some q))
  refine ⟨w', hrun, ⟨_, ho, fun y hy => ?_⟩, hg.grown, turned_size hg⟩
  by_cases e : y = x
  · subst e
    rw [atKey_put_same h.isMap (Try.keyU64.key (key_u64 y hy))]
    simp only [if_pos]
  · rw [atKey_put_other (lit64_ne e)]
    simp only [if_neg e]
    exact hf y hy
theorem HalfAt.drop {w : World} {b k x : Nat} {F : Nat → Option Nat} (ty : TypeId) (h : HalfAt w b k F) (hx : x < 18446744073709551616) :
    ∃ w', (Builtin.delete_ #[38, 26] ty #[.map (some b), .int .u64 (x : Int)]).run Try.prog w = .ok (.tuple #[]) w' ∧ HalfAt w' b k (fun y => if y = x then none else F y) ∧ w.grownBy w' (some b) ∧ w'.heap.size = w.heap.size := by
  obtain ⟨D, h, hf⟩ := h
  obtain ⟨w', hrun, ho, hg⟩ := h.drop Try.keyU64 Try.underlying38 (key_u64 x hx) ty
  refine ⟨w', hrun, ⟨_, ho, fun y hy => ?_⟩, hg.grown, turned_size hg⟩
  by_cases e : y = x
  · subst e
    rw [atKey_del_same]
    simp only [if_pos]
  · rw [atKey_del_other (lit64_ne e)]
    simp only [if_neg e]
    exact hf y hy

/-! A row that grows. -/
def wcells (d : Array Int) : List Value := d.toList.map fun x => .int .u64 x
theorem wcells_len (d : Array Int) : (wcells d).length = d.size := by simp [wcells]
theorem wcells_get (d : Array Int) (i : Nat) (h : i < d.size) : (wcells d)[i]? = some (.int .u64 d[i]!) := by
  simp [wcells, h]
theorem Srow.owns {w : World} {b m : Nat} {d : Array Int} (h : Srow w b 0 m d) (hm : m ≤ maxLen) : w.ownsRow 0 26 1 (.slice (some ⟨b, 0, none⟩) d.size m) d.size (wcells d) := by
  obtain ⟨⟨A, ⟨c, hb, hc, hA⟩, hd⟩, hl⟩ := h
  refine ⟨by rw [wcells_len, Nat.mul_one], .inr ⟨b, m, c, rfl, Nat.zero_le _, hb, by omega, hm, by omega, ?_⟩⟩
  refine List.ext_getElem? fun i => ?_
  by_cases g : i < d.size
  · rw [List.getElem?_take_of_lt (by omega), wcells_get d i g, Array.getElem?_toList, hA i (by omega)]
    have := hd i g
    rw [Nat.zero_add] at this
    rw [this]
  · rw [List.getElem?_eq_none (by rw [List.length_take]; omega), List.getElem?_eq_none (by rw [wcells_len]; omega)]
theorem owns_srow {w : World} {v : Value} {d : Array Int} (h : w.ownsRow 0 26 1 v d.size (wcells d)) (hv : v ≠ .slice none 0 0) : ∃ b m, v = .slice (some ⟨b, 0, none⟩) d.size m ∧ Srow w b 0 m d ∧ m ≤ maxLen := by
  rcases h.2 with ⟨rfl, -⟩ | ⟨g, cap, cur, rfl, -, hh, hle, hm, hs, ht⟩
  · exact absurd rfl hv
  · rw [Nat.mul_one] at hs ht
    refine ⟨g, cap, rfl, ⟨⟨fun i => cur.getD i undef, ⟨cur, hh, hs, fun i hi => by simp [Array.getD, hs, hi]⟩, fun i hi => ?_⟩, by omega⟩, hm⟩
    have e : cur.toList[i]? = some (.int .u64 d[i]!) := by rw [← wcells_get d i hi, ← ht, List.getElem?_take_of_lt hi]
    rw [Array.getElem?_toList] at e
    obtain ⟨hl, e⟩ := Array.getElem?_eq_some_iff.1 e
    show cur.getD (0 + i) undef = _
    rw [Nat.zero_add, Array.getD, dif_pos hl]
    exact e
theorem Try.infoU64 : (Try.prog.info? 26).map (fun i => (i.zero, i.size, i.bytes)) = some (some (.int .u64 0), 1, 8) := by kernel_rfl
theorem wcells_push (d : Array Int) (x : Int) : wcells (d.push x) = wcells d ++ [.int .u64 x] := by simp [wcells]
/-- One more number. -/
theorem row_push {W : World} {v : Value} {d : Array Int} {x : Int} {b o c : Nat} (ty : TypeId) (h : W.ownsRow 0 26 1 v d.size (wcells d)) (hx : W.cell? ⟨b, o, none⟩ = some (.int .u64 x)) (hn : d.size ≤ 1000000) :
    ∃ g m W', (Builtin.append_ #[39, 39] ty #[v, .slice (some ⟨b, o, none⟩) 1 c]).run Try.prog W = .ok (.slice (some ⟨g, 0, none⟩) (d.size + 1) m) W' ∧ Srow W' g 0 m (d.push x) ∧ m ≤ maxLen ∧ W.grownBy W' v.ownBlock ∧ (v.ownBlock = some g ∨ g = W.heap.size) := by
  obtain ⟨i0, hi, hz0, hz1, hz2⟩ := info_parts Try.infoU64
  obtain ⟨v', W', hr, hown, hgr, hne, hwh⟩ := run_append_own_at (P := Try.prog) W 0 39 ty 26 i0 (.int .u64 0) 1 8 Try.underlying39 hi hz0 hz1 hz2 rfl (by decide) v d.size _ h ⟨b, o, none⟩ 1 c [.int .u64 x] rfl
    (fun j u hj => by
      cases j with
      | zero => simp at hj; rw [← hj]; exact hx
      | succ j => simp at hj) (fun u hu => by simp at hu; rw [hu]; rfl) (by unfold maxLen; omega) (by omega) (Nat.zero_le _)
  have hown' : W'.ownsRow 0 26 1 v' (d.push x).size (wcells (d.push x)) := by
    rw [wcells_push, Array.size_push]
    exact hown
  obtain ⟨g, m, rfl, hs, hm⟩ := owns_srow hown' (fun e => by have := (hne.1 e).2; omega)
  refine ⟨g, m, W', by rw [hr, Array.size_push], hs, hm, hgr, ?_⟩
  rcases hwh with e | e
  · exact Or.inl e.symm
  · exact Or.inr (by simpa [Value.ownBlock] using e)
end Go.Proofs.Ytalfncnpffbmmaa

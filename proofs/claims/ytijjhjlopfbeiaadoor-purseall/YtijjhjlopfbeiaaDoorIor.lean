/-
  A row of ints of the call's own, appended to.
-/
import Derived.Test.YtijjhjlopfbeiaaDoorNms
namespace Go.Proofs.YtijjhjlopfbeiaaDoor
open Go.RowKit Go.Deep

def icells (x : Nat → Int) (k : Nat) : List Value := (List.range k).map fun i => .int .i64 (x i)
theorem icells_len (x : Nat → Int) (k : Nat) : (icells x k).length = k := by simp [icells]
theorem icells_get (x : Nat → Int) (k j : Nat) (v : Value) (h : (icells x k)[j]? = some v) : j < k ∧ v = .int .i64 (x j) := by
  have hj : j < k := by have := (List.getElem?_eq_some_iff.1 h).1; rwa [icells_len] at this
  refine ⟨hj, ?_⟩
  simp [icells, hj] at h
  exact h.symm
theorem icells_one (x : Nat → Int) (k : Nat) : ∀ u ∈ icells x k, u.oneCell' = true := by
  intro u hu
  obtain ⟨i, _, rfl⟩ := List.mem_map.1 hu
  rfl
/-- A row of the call's own, of n numbers x. -/
def Ior (w : World) (base : Nat) (v : Value) (n : Nat) (x : Nat → Int) : Prop := w.ownsRow base 3 1 v n (icells x n)
theorem Ior.nil (w : World) (base : Nat) (x : Nat → Int) : Ior w base (.slice none 0 0) 0 x := ⟨rfl, .inl ⟨rfl, rfl⟩⟩
theorem Ior.any {w : World} {base : Nat} {v : Value} {n : Nat} {x : Nat → Int} (h : Ior w base v n x) :
    ∃ r cap, v = .slice r n cap ∧ n ≤ cap ∧ (∀ g, v.ownBlock = some g → base ≤ g ∧ g < w.heap.size) ∧ NumsAt .i64 w r n x := by
  have hl : ∀ g, v.ownBlock = some g → base ≤ g ∧ g < w.heap.size := fun g e => World.ownsRow.lt h g e
  rcases h.2 with ⟨rfl, rfl⟩ | ⟨g, cap, cur, rfl, hb, hh, hle, hm, hs, ht⟩
  · exact ⟨none, 0, rfl, Nat.le_refl _, hl, fun h => absurd h (by omega)⟩
  · refine ⟨_, cap, rfl, hle, hl, fun _ => ⟨g, 0, rfl, fun i hi => ?_⟩⟩
    have e : cur.toList[i]? = some (.int .i64 (x i)) := by
      have : (cur.toList.take (n * 1))[i]? = cur.toList[i]? := by rw [List.getElem?_take_of_lt (by omega)]
      rw [← this, ht]
      simp [icells, hi]
    simp [World.cell?, hh]
    simpa using e
theorem Ior.kept {R : Nat} {w w' : World} {base : Nat} {v : Value} {n : Nat} {x : Nat → Int} (h : Ior w base v n x) (hk : Kept R w w') (hR : R < base) : Ior w' base v n x := by
  have h' : w.ownsRow base 3 1 v n (icells x n) := h
  refine h'.kept (row := some R) ⟨hk.os, hk.tape, hk.output, hk.size, fun k hk' hne => hk.block k hk' (fun e => hne (by rw [e]))⟩ ?_
  cases e : v.ownBlock with
  | none => exact .inl rfl
  | some g =>
    have := (h'.lt g e).1
    refine .inr fun e2 => ?_
    cases e2
    omega
theorem Ior.grew {w w' : World} {base : Nat} {v : Value} {n : Nat} {x : Nat → Int} (h : Ior w base v n x) (hb : Below w.heap.size w w') : Ior w' base v n x := by
  have h' : w.ownsRow base 3 1 v n (icells x n) := h
  refine h'.kept (row := none) ⟨hb.os, hb.tape, hb.output, hb.size, fun k hk _ => hb.block k hk⟩ ?_
  cases e : v.ownBlock with
  | none => exact .inl rfl
  | some g => exact .inr (by simp)
theorem Ior.base {w : World} {base base' : Nat} {v : Value} {n : Nat} {x : Nat → Int} (h : Ior w base v n x) (hb : base' ≤ base) : Ior w base' v n x := by
  obtain ⟨h1, h2⟩ := h
  refine ⟨h1, ?_⟩
  rcases h2 with h2 | ⟨g, cap, cur, e, hg, h3⟩
  · exact .inl h2
  · exact .inr ⟨g, cap, cur, e, Nat.le_trans hb hg, h3⟩
theorem Tryd.infoInt : (Tryd.prog.info? 3).map (fun i => (i.zero, i.size, i.bytes)) = some (some (.int .i64 0), 1, 8) := by kernel_rfl
/-- m more numbers y, from wherever they lie. -/
theorem Ior.push_at {W : World} {base : Nat} {v : Value} {n m c : Nat} {x y : Nat → Int} {a : Option Addr} (ty : TypeId) (h : Ior W base v n x) (hy : NumsAt .i64 W a m y) (h0 : 0 < m) (hn : n + m ≤ 1000000) (hbase : base ≤ W.heap.size) :
    ∃ v' W', (Builtin.append_ #[24, 24] ty #[v, .slice a m c]).run Tryd.prog W = .ok v' W' ∧ Ior W' base v' (n + m) (fun i => if i < n then x i else y (i - n)) ∧ W.grownBy W' v.ownBlock ∧ (v'.ownBlock = v.ownBlock ∨ v'.ownBlock = some W.heap.size) := by
  obtain ⟨i0, hi, hz0, hz1, hz2⟩ := info_parts Tryd.infoInt
  obtain ⟨b, o, rfl, hc⟩ := hy h0
  obtain ⟨v', W', hr, hown, hgr, -, hwh⟩ := run_append_own_at (P := Tryd.prog) W base 24 ty 3 i0 (.int .i64 0) 1 8 Tryd.underlying24 hi hz0 hz1 hz2 rfl (by decide) v n _ h ⟨b, o, none⟩ m c (icells y m) (by rw [icells_len, Nat.mul_one])
    (fun j u hj => by
      obtain ⟨hjn, rfl⟩ := icells_get _ _ _ _ hj
      rw [Addr.add_mid]
      exact hc j hjn) (icells_one _ _) (by unfold maxLen; omega) (by omega) hbase
  refine ⟨v', W', hr, ?_, hgr, hwh⟩
  have e : icells x n ++ icells y m = icells (fun i => if i < n then x i else y (i - n)) (n + m) := by
    refine List.ext_getElem? fun i => ?_
    by_cases g : i < n
    · rw [List.getElem?_append_left (by rw [icells_len]; exact g)]
      simp [icells, g, show i < n + m by omega]
    · rw [List.getElem?_append_right (by rw [icells_len]; omega), icells_len]
      by_cases q : i < n + m
      · simp [icells, g, q, show i - n < m by omega]
      · simp [icells, q, show ¬ i - n < m by omega]
  show W'.ownsRow _ _ _ _ _ _
  rw [← e]
  exact hown
theorem Ior.push {W : World} {base : Nat} {v : Value} {n m c : Nat} {x y : Nat → Int} {a : Option Addr} (ty : TypeId) (h : Ior W base v n x) (hy : NumsAt .i64 W a m y) (h0 : 0 < m) (hn : n + m ≤ 1000000) (hbase : base ≤ W.heap.size) :
    ∃ v' W', (Builtin.append_ #[24, 24] ty #[v, .slice a m c]).run Tryd.prog W = .ok v' W' ∧ Ior W' base v' (n + m) (fun i => if i < n then x i else y (i - n)) ∧ W.grownBy W' v.ownBlock := by
  obtain ⟨v', W', h1, h2, h3, -⟩ := h.push_at ty hy h0 hn hbase
  exact ⟨v', W', h1, h2, h3⟩
/-- What has grown turned nothing but its own. -/
theorem Ior.grown {W W' : World} {base : Nat} {v : Value} {n : Nat} {x : Nat → Int} (h : Ior W base v n x) (hg : W.grownBy W' v.ownBlock) (hb : base ≤ W.heap.size) : Below base W W' :=
  ⟨hg.os, hg.tape, hg.output, hg.size, fun k hk => hg.block k (by omega) (fun e => by have := (World.ownsRow.lt h k e.symm).1; omega)⟩
end Go.Proofs.YtijjhjlopfbeiaaDoor

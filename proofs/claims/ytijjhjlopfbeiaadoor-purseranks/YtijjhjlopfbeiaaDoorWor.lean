/-
  A row of wants of the call's own, appended to.
-/
import Derived.Test.YtijjhjlopfbeiaaDoorPus
namespace Go.Proofs.YtijjhjlopfbeiaaDoor
open Go.RowKit Go.Deep

/-- A want's cells. -/
def Wt.cell (a : Wt) : Nat → Value
  | 0 => .int .u32 a.id
  | 1 => .int .i64 a.r
  | _ => .int .i64 a.b
def wcells (K : Nat → Wt) (m : Nat) : List Value := (List.range (m * 3)).map fun i => (K (i / 3)).cell (i % 3)
theorem wcells_len (K : Nat → Wt) (m : Nat) : (wcells K m).length = m * 3 := by simp [wcells]
def thrCells (a : Wt) : List Value := [.int .u32 a.id, .int .i64 a.r, .int .i64 a.b]
theorem thr_get (a : Wt) : ∀ j, j < 3 → (thrCells a)[j]? = some (a.cell j)
  | 0, _ => rfl
  | 1, _ => rfl
  | 2, _ => rfl
  | j + 3, h => absurd h (by omega)
theorem wcells_push (K : Nat → Wt) (m : Nat) (a : Wt) : wcells K m ++ thrCells a = wcells (fun i => if i < m then K i else a) (m + 1) := by
  refine List.ext_getElem? fun i => ?_
  by_cases g : i < m * 3
  · rw [List.getElem?_append_left (by rw [wcells_len]; exact g)]
    simp [wcells, g, show i < (m + 1) * 3 by omega, show i / 3 < m by omega]
  · rw [List.getElem?_append_right (by rw [wcells_len]; omega), wcells_len]
    by_cases q : i < (m + 1) * 3
    · rw [thr_get a (i - m * 3) (by omega)]
      simp [wcells, q, show ¬ i / 3 < m by omega]
      congr 1
      omega
    · rw [List.getElem?_eq_none (by simp [thrCells]; omega), List.getElem?_eq_none (by rw [wcells_len]; omega)]
/-- A row of the call's own, of m wants K. -/
def Wor (w : World) (base : Nat) (v : Value) (m : Nat) (K : Nat → Wt) : Prop := w.ownsRow base 30 3 v m (wcells K m)
theorem Wor.nil (w : World) (base : Nat) (K : Nat → Wt) : Wor w base (.slice none 0 0) 0 K := ⟨rfl, .inl ⟨rfl, rfl⟩⟩
theorem Wor.congr {w : World} {base : Nat} {v : Value} {m : Nat} {K L : Nat → Wt} (h : Wor w base v m K) (e : ∀ i, i < m → K i = L i) : Wor w base v m L := by
  have : wcells K m = wcells L m := by
    unfold wcells
    refine List.map_congr_left fun i hi => ?_
    have := List.mem_range.1 hi
    rw [e (i / 3) (by omega)]
  unfold Wor at *
  rwa [← this]
theorem Wor.any {w : World} {base : Nat} {v : Value} {m : Nat} {K : Nat → Wt} (h : Wor w base v m K) :
    ∃ r cap, v = .slice r m cap ∧ WtsAt w r m K ∧ (∀ b o, r = some ⟨b, o, none⟩ → base ≤ b ∧ b < w.heap.size) := by
  have hl : ∀ g, v.ownBlock = some g → base ≤ g ∧ g < w.heap.size := fun g e => World.ownsRow.lt h g e
  rcases h.2 with ⟨rfl, rfl⟩ | ⟨g, cap, cur, rfl, hb, hh, hle, hm, hs, ht⟩
  · exact ⟨none, 0, rfl, WtsAt.nil _ _ _, fun b o e => by cases e⟩
  · refine ⟨_, cap, rfl, fun _ => ⟨g, 0, rfl, fun i hi => ?_⟩, fun b o e => by cases e; exact hl g rfl⟩
    have e : ∀ j, j < 3 → w.cell? ⟨g, i * 3 + j, none⟩ = some ((K i).cell j) := fun j hj => by
      have e : cur.toList[i * 3 + j]? = some ((K i).cell j) := by
        have : (cur.toList.take (m * 3))[i * 3 + j]? = cur.toList[i * 3 + j]? := by rw [List.getElem?_take_of_lt (by omega)]
        rw [← this, ht]
        simp [wcells, show i * 3 + j < m * 3 by omega, show (i * 3 + j) / 3 = i by omega, show (i * 3 + j) % 3 = j by omega]
      simp [World.cell?, hh]
      simpa using e
    rw [Nat.zero_add]
    exact ⟨e 0 (by decide), e 1 (by decide), e 2 (by decide)⟩
theorem Wor.grew {w w' : World} {base : Nat} {v : Value} {m : Nat} {K : Nat → Wt} (h : Wor w base v m K) (hb : Below w.heap.size w w') : Wor w' base v m K := by
  have h' : w.ownsRow base 30 3 v m (wcells K m) := h
  refine h'.kept (row := none) ⟨hb.os, hb.tape, hb.output, hb.size, fun k hk _ => hb.block k hk⟩ ?_
  cases e : v.ownBlock with
  | none => exact .inl rfl
  | some g => exact .inr (by simp)
theorem Tryd.infoWant : (Tryd.prog.info? 30).map (fun i => (i.zero, i.size, i.bytes)) = some (some (.agg #[.int .u32 0, .int .i64 0, .int .i64 0]), 3, 24) := by kernel_rfl
/-- One more want, from wherever it lies. -/
theorem Wor.push {W : World} {base : Nat} {v : Value} {m q : Nat} {K : Nat → Wt} {a : Wt} (ty : TypeId) (h : Wor W base v m K) (hf : WtAt W q a) (hm : m ≤ 1000) (hbase : base ≤ W.heap.size) :
    ∃ v' W', (Builtin.append_ #[22, 22] ty #[v, .slice (some ⟨q, 0, none⟩) 1 1]).run Tryd.prog W = .ok v' W' ∧ Wor W' base v' (m + 1) (fun i => if i < m then K i else a) ∧ W.grownBy W' v.ownBlock ∧ (v'.ownBlock = v.ownBlock ∨ v'.ownBlock = some W.heap.size) := by
  obtain ⟨i0, hi, hz0, hz1, hz2⟩ := info_parts Tryd.infoWant
  obtain ⟨v', W', hr, hown, hgr, -, hwh⟩ := run_append_own_at (P := Tryd.prog) W base 22 ty 30 i0 (.agg #[.int .u32 0, .int .i64 0, .int .i64 0]) 3 24 Tryd.underlying22 hi hz0 hz1 hz2 rfl (by decide) v m _ h ⟨q, 0, none⟩ 1 1 (thrCells a) rfl
    (fun j u hj => by
      have hj3 : j < 3 := by
        have := (List.getElem?_eq_some_iff.1 hj).1
        exact this
      rw [thr_get a j hj3] at hj
      cases hj
      rw [Addr.add_mid, Nat.zero_add]
      have : j = 0 ∨ j = 1 ∨ j = 2 := by omega
      rcases this with rfl | rfl | rfl
      · exact hf.c0
      · exact hf.c1
      · exact hf.c2) (by intro u hu; simp [thrCells] at hu; rcases hu with rfl | rfl | rfl <;> rfl) (by unfold maxLen; omega) (by omega) hbase
  refine ⟨v', W', hr, ?_, hgr, hwh⟩
  show W'.ownsRow _ _ _ _ _ _
  rw [← wcells_push]
  exact hown
theorem Wor.grown {W W' : World} {base : Nat} {v : Value} {m : Nat} {K : Nat → Wt} (h : Wor W base v m K) (hg : W.grownBy W' v.ownBlock) (hb : base ≤ W.heap.size) : Below base W W' :=
  ⟨hg.os, hg.tape, hg.output, hg.size, fun k hk => hg.block k (by omega) (fun e => by have := (World.ownsRow.lt h k e.symm).1; omega)⟩
end Go.Proofs.YtijjhjlopfbeiaaDoor

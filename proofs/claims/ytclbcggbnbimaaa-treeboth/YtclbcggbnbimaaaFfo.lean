/-
  A row of frames of the call's own, appended to.
-/
import Derived.Test.YtclbcggbnbimaaaFsm
namespace Go.Proofs.Ytclbcggbnbimaaa
open Go.RowKit Go.Deep

def fcells (K : Nat → Fr) (m : Nat) : List Value := (List.range (m * 6)).map fun i => (K (i / 6)).cell (i % 6)
theorem fcells_len (K : Nat → Fr) (m : Nat) : (fcells K m).length = m * 6 := by simp [fcells]
theorem fcells_congr {K L : Nat → Fr} {m : Nat} (h : ∀ i, i < m → K i = L i) : fcells K m = fcells L m := by
  unfold fcells
  refine List.map_congr_left fun i hi => ?_
  have := List.mem_range.1 hi
  rw [h (i / 6) (by omega)]
def sixCells (f : Fr) : List Value := [.int .u32 (f.id : Int), .int .i64 f.k, .slice f.a f.n f.c, .int .i64 f.s, .int .i64 f.p, .int .i64 f.d]
theorem six_get (f : Fr) : ∀ j, j < 6 → (sixCells f)[j]? = some (f.cell j)
  | 0, _ => rfl
  | 1, _ => rfl
  | 2, _ => rfl
  | 3, _ => rfl
  | 4, _ => rfl
  | 5, _ => rfl
  | j + 6, h => absurd h (by omega)
theorem fcells_push (K : Nat → Fr) (m : Nat) (f : Fr) : fcells K m ++ sixCells f = fcells (fun i => if i < m then K i else f) (m + 1) := by
  refine List.ext_getElem? fun i => ?_
  by_cases g : i < m * 6
  · rw [List.getElem?_append_left (by rw [fcells_len]; exact g)]
    simp [fcells, g, show i < (m + 1) * 6 by omega, show i / 6 < m by omega]
  · rw [List.getElem?_append_right (by rw [fcells_len]; omega), fcells_len]
    by_cases q : i < (m + 1) * 6
    · rw [six_get f (i - m * 6) (by omega)]
      simp [fcells, q, show ¬ i / 6 < m by omega]
      congr 1
      omega
    · rw [List.getElem?_eq_none (by simp [sixCells]; omega), List.getElem?_eq_none (by rw [fcells_len]; omega)]
/-- A row of the call's own, of m frames K. -/
def Ffo (w : World) (base : Nat) (v : Value) (m : Nat) (K : Nat → Fr) : Prop := w.ownsRow base 31 6 v m (fcells K m)
theorem Ffo.nil (w : World) (base : Nat) (K : Nat → Fr) : Ffo w base (.slice none 0 0) 0 K := ⟨rfl, .inl ⟨rfl, rfl⟩⟩
theorem Ffo.any {w : World} {base : Nat} {v : Value} {m : Nat} {K : Nat → Fr} (h : Ffo w base v m K) :
    ∃ r cap, v = .slice r m cap ∧ FrsAt w r m K ∧ (∀ b o, r = some ⟨b, o, none⟩ → base ≤ b ∧ b < w.heap.size) := by
  have hl : ∀ g, v.ownBlock = some g → base ≤ g ∧ g < w.heap.size := fun g e => World.ownsRow.lt h g e
  rcases h.2 with ⟨rfl, rfl⟩ | ⟨g, cap, cur, rfl, hb, hh, hle, hm, hs, ht⟩
  · exact ⟨none, 0, rfl, FrsAt.nil _ _, fun b o e => by cases e⟩
  · refine ⟨_, cap, rfl, fun _ => ⟨g, 0, rfl, fun i hi => ?_⟩, fun b o e => by cases e; exact hl g rfl⟩
    have e : ∀ j, j < 6 → w.cell? ⟨g, i * 6 + j, none⟩ = some ((K i).cell j) := fun j hj => by
      have e : cur.toList[i * 6 + j]? = some ((K i).cell j) := by
        have : (cur.toList.take (m * 6))[i * 6 + j]? = cur.toList[i * 6 + j]? := by rw [List.getElem?_take_of_lt (by omega)]
        rw [← this, ht]
        simp [fcells, show i * 6 + j < m * 6 by omega, show (i * 6 + j) / 6 = i by omega, show (i * 6 + j) % 6 = j by omega]
      simp [World.cell?, hh]
      simpa using e
    rw [Nat.zero_add]
    exact ⟨e 0 (by decide), e 1 (by decide), e 2 (by decide), e 3 (by decide), e 4 (by decide), e 5 (by decide)⟩
theorem Ffo.kept {R : Nat} {w w' : World} {base : Nat} {v : Value} {m : Nat} {K : Nat → Fr} (h : Ffo w base v m K) (hk : Kept R w w') (hR : R < base) : Ffo w' base v m K := by
  have h' : w.ownsRow base 31 6 v m (fcells K m) := h
  refine h'.kept (row := some R) ⟨hk.os, hk.tape, hk.output, hk.size, fun k hk' hne => hk.block k hk' (fun e => hne (by rw [e]))⟩ ?_
  cases e : v.ownBlock with
  | none => exact .inl rfl
  | some g =>
    have := (h'.lt g e).1
    refine .inr fun e2 => ?_
    cases e2
    omega
theorem Ffo.grew {w w' : World} {base : Nat} {v : Value} {m : Nat} {K : Nat → Fr} (h : Ffo w base v m K) (hb : Below w.heap.size w w') : Ffo w' base v m K := by
  have h' : w.ownsRow base 31 6 v m (fcells K m) := h
  refine h'.kept (row := none) ⟨hb.os, hb.tape, hb.output, hb.size, fun k hk _ => hb.block k hk⟩ ?_
  cases e : v.ownBlock with
  | none => exact .inl rfl
  | some g => exact .inr (by simp)
/-- One more frame, from wherever it lies. -/
theorem Ffo.push {W : World} {base : Nat} {v : Value} {m q : Nat} {K : Nat → Fr} {f : Fr} (ty : TypeId) (h : Ffo W base v m K) (hf : FrAt W q f) (hm : m ≤ 1000) (hbase : base ≤ W.heap.size) :
    ∃ v' W', (Builtin.append_ #[25, 25] ty #[v, .slice (some ⟨q, 0, none⟩) 1 1]).run Try.prog W = .ok v' W' ∧ Ffo W' base v' (m + 1) (fun i => if i < m then K i else f) ∧ W.grownBy W' v.ownBlock ∧ (v'.ownBlock = v.ownBlock ∨ v'.ownBlock = some W.heap.size) := by
  obtain ⟨i0, hi, hz0, hz1, hz2⟩ := info_parts Try.infoFrame
  obtain ⟨v', W', hr, hown, hgr, -, hwh⟩ := run_append_own_at (P := Try.prog) W base 25 ty 31 i0 (.agg #[.int .u32 0, .int .i64 0, .slice none 0 0, .int .i64 0, .int .i64 0, .int .i64 0]) 6 64 Try.underlying25 hi hz0 hz1 hz2 rfl (by decide) v m _ h ⟨q, 0, none⟩ 1 1 (sixCells f) rfl
    (fun j u hj => by
      have hj6 : j < 6 := by
        have := (List.getElem?_eq_some_iff.1 hj).1
        exact this
      rw [six_get f j hj6] at hj
      cases hj
      rw [Addr.add_mid, Nat.zero_add]
      exact six_cell hf j hj6) (by intro u hu; simp [sixCells] at hu; rcases hu with rfl | rfl | rfl | rfl | rfl | rfl <;> rfl) (by unfold maxLen; omega) (by omega) hbase
  refine ⟨v', W', hr, ?_, hgr, hwh⟩
  show W'.ownsRow _ _ _ _ _ _
  rw [← fcells_push]
  exact hown
where six_cell {W : World} {q : Nat} {f : Fr} (h : FrAt W q f) : ∀ j, j < 6 → W.cell? ⟨q, j, none⟩ = some (f.cell j)
  | 0, _ => h.c0
  | 1, _ => h.c1
  | 2, _ => h.c2
  | 3, _ => h.c3
  | 4, _ => h.c4
  | 5, _ => h.c5
  | j + 6, hj => absurd hj (by omega)
theorem Ffo.grown {W W' : World} {base : Nat} {v : Value} {m : Nat} {K : Nat → Fr} (h : Ffo W base v m K) (hg : W.grownBy W' v.ownBlock) (hb : base ≤ W.heap.size) : Below base W W' :=
  ⟨hg.os, hg.tape, hg.output, hg.size, fun k hk => hg.block k (by omega) (fun e => by have := (World.ownsRow.lt h k e.symm).1; omega)⟩
end Go.Proofs.Ytclbcggbnbimaaa

/-
  A row of data of the call's own, appended to; bodies apart from it.
-/
import Derived.Test.YthlidbenhlidjaaDat
namespace Go.Proofs.Ythlidbenhlidjaa
open Go.RowKit Go.Deep

/-- Data: Seq, Stamp, Frame, Symbol, Body (where, how many, room). -/
structure Dt where
  s : Nat
  t : Nat
  f : Nat
  y : Nat
  a : Option Addr
  n : Nat
  c : Nat
def Dt.cell (d : Dt) : Nat → Value
  | 0 => .int .u16 (d.s : Int)
  | 1 => .int .u16 (d.t : Int)
  | 2 => .int .u32 (d.f : Int)
  | 3 => .int .u16 (d.y : Int)
  | _ => .slice d.a d.n d.c
def Dt.val (d : Dt) : Value := .agg #[.int .u16 (d.s : Int), .int .u16 (d.t : Int), .int .u32 (d.f : Int), .int .u16 (d.y : Int), .slice d.a d.n d.c]
/-- The slice's address a leads to m data: the i-th is K i. -/
def DsAt (w : World) (a : Option Addr) (m : Nat) (K : Nat → Dt) : Prop :=
  0 < m → ∃ b o, a = some ⟨b, o, none⟩ ∧ ∀ i, i < m → w.cell? ⟨b, o + i * 5, none⟩ = some (.int .u16 ((K i).s : Int)) ∧ w.cell? ⟨b, o + i * 5 + 1, none⟩ = some (.int .u16 ((K i).t : Int)) ∧ w.cell? ⟨b, o + i * 5 + 2, none⟩ = some (.int .u32 ((K i).f : Int)) ∧
    w.cell? ⟨b, o + i * 5 + 3, none⟩ = some (.int .u16 ((K i).y : Int)) ∧ w.cell? ⟨b, o + i * 5 + 4, none⟩ = some (.slice (K i).a (K i).n (K i).c)
theorem DsAt.nil (w : World) (K : Nat → Dt) : DsAt w none 0 K := fun h => absurd h (by omega)
theorem DsAt.addr {w : World} {a : Option Addr} {m : Nat} {K : Nat → Dt} (h : DsAt w a m K) (h0 : 0 < m) : ∃ b o, a = some ⟨b, o, none⟩ := by
  obtain ⟨b, o, e, -⟩ := h h0
  exact ⟨b, o, e⟩
theorem DsAt.at {w : World} {b o m : Nat} {K : Nat → Dt} (h : DsAt w (some ⟨b, o, none⟩) m K) (i : Nat) (hi : i < m) : w.cell? ⟨b, o + i * 5, none⟩ = some (.int .u16 ((K i).s : Int)) ∧ w.cell? ⟨b, o + i * 5 + 1, none⟩ = some (.int .u16 ((K i).t : Int)) ∧ w.cell? ⟨b, o + i * 5 + 2, none⟩ = some (.int .u32 ((K i).f : Int)) ∧
    w.cell? ⟨b, o + i * 5 + 3, none⟩ = some (.int .u16 ((K i).y : Int)) ∧ w.cell? ⟨b, o + i * 5 + 4, none⟩ = some (.slice (K i).a (K i).n (K i).c) := by
  obtain ⟨b', o', e, hc⟩ := h (by omega)
  cases e
  exact hc i hi
theorem DsAt.block {w w' : World} {a : Option Addr} {m : Nat} {K : Nat → Dt} (h : DsAt w a m K) (hb : ∀ b o, a = some ⟨b, o, none⟩ → b < w.heap.size → w'.heap[b]? = w.heap[b]?) : DsAt w' a m K := fun h0 => by
  obtain ⟨b, o, e, hc⟩ := h h0
  have hl := hb b o e (cell_lt (hc 0 h0).1)
  have q : ∀ j, w'.cell? ⟨b, j, none⟩ = w.cell? ⟨b, j, none⟩ := fun j => World.cell?_of_block (a := ⟨b, j, none⟩) hl
  refine ⟨b, o, e, fun i hi => ?_⟩
  rw [q, q, q, q, q]
  exact hc i hi
theorem DsAt.grew {w w' : World} {a : Option Addr} {m : Nat} {K : Nat → Dt} (h : DsAt w a m K) (hb : Below w.heap.size w w') : DsAt w' a m K := h.block fun b _ _ hl => hb.block b hl
theorem DsAt.kept {w w' : World} {b o m R : Nat} {K : Nat → Dt} (h : DsAt w (some ⟨b, o, none⟩) m K) (hk : Kept R w w') (hR : b ≠ R) : DsAt w' (some ⟨b, o, none⟩) m K := h.block fun _ _ e hl => by cases e; exact hk.block b hl hR

def dcells (K : Nat → Dt) (m : Nat) : List Value := (List.range (m * 5)).map fun i => (K (i / 5)).cell (i % 5)
theorem dcells_len (K : Nat → Dt) (m : Nat) : (dcells K m).length = m * 5 := by simp [dcells]
def fiveCells (d : Dt) : List Value := [.int .u16 (d.s : Int), .int .u16 (d.t : Int), .int .u32 (d.f : Int), .int .u16 (d.y : Int), .slice d.a d.n d.c]
theorem five_get (d : Dt) : ∀ j, j < 5 → (fiveCells d)[j]? = some (d.cell j)
  | 0, _ => rfl
  | 1, _ => rfl
  | 2, _ => rfl
  | 3, _ => rfl
  | 4, _ => rfl
  | j + 5, h => absurd h (by omega)
theorem dcells_push (K : Nat → Dt) (m : Nat) (d : Dt) : dcells K m ++ fiveCells d = dcells (fun i => if i < m then K i else d) (m + 1) := by
  refine List.ext_getElem? fun i => ?_
  by_cases g : i < m * 5
  · rw [List.getElem?_append_left (by rw [dcells_len]; exact g)]
    simp [dcells, g, show i < (m + 1) * 5 by omega, show i / 5 < m by omega]
  · rw [List.getElem?_append_right (by rw [dcells_len]; omega), dcells_len]
    by_cases q : i < (m + 1) * 5
    · rw [five_get d (i - m * 5) (by omega)]
      simp [dcells, q, show ¬ i / 5 < m by omega]
      congr 1
      omega
    · rw [List.getElem?_eq_none (by simp [fiveCells]; omega), List.getElem?_eq_none (by rw [dcells_len]; omega)]
/-- A row of the call's own, of m data K. -/
def Dor (w : World) (base : Nat) (v : Value) (m : Nat) (K : Nat → Dt) : Prop := w.ownsRow base 40 5 v m (dcells K m)
theorem Dor.nil (w : World) (base : Nat) (K : Nat → Dt) : Dor w base (.slice none 0 0) 0 K := ⟨rfl, .inl ⟨rfl, rfl⟩⟩
theorem Dor.any {w : World} {base : Nat} {v : Value} {m : Nat} {K : Nat → Dt} (h : Dor w base v m K) :
    ∃ r cap, v = .slice r m cap ∧ DsAt w r m K ∧ (∀ b o, r = some ⟨b, o, none⟩ → base ≤ b ∧ b < w.heap.size) := by
  have hl : ∀ g, v.ownBlock = some g → base ≤ g ∧ g < w.heap.size := fun g e => World.ownsRow.lt h g e
  rcases h.2 with ⟨rfl, rfl⟩ | ⟨g, cap, cur, rfl, hb, hh, hle, hm, hs, ht⟩
  · exact ⟨none, 0, rfl, DsAt.nil _ _, fun b o e => by cases e⟩
  · refine ⟨_, cap, rfl, fun _ => ⟨g, 0, rfl, fun i hi => ?_⟩, fun b o e => by cases e; exact hl g rfl⟩
    have e : ∀ j, j < 5 → w.cell? ⟨g, i * 5 + j, none⟩ = some ((K i).cell j) := fun j hj => by
      have e : cur.toList[i * 5 + j]? = some ((K i).cell j) := by
        have : (cur.toList.take (m * 5))[i * 5 + j]? = cur.toList[i * 5 + j]? := by rw [List.getElem?_take_of_lt (by omega)]
        rw [← this, ht]
        simp [dcells, show i * 5 + j < m * 5 by omega, show (i * 5 + j) / 5 = i by omega, show (i * 5 + j) % 5 = j by omega]
      simp [World.cell?, hh]
      simpa using e
    rw [Nat.zero_add]
    exact ⟨e 0 (by decide), e 1 (by decide), e 2 (by decide), e 3 (by decide), e 4 (by decide)⟩
theorem Dor.kept {R : Nat} {w w' : World} {base : Nat} {v : Value} {m : Nat} {K : Nat → Dt} (h : Dor w base v m K) (hk : Kept R w w') (hR : R < base) : Dor w' base v m K := by
  have h' : w.ownsRow base 40 5 v m (dcells K m) := h
  refine h'.kept (row := some R) ⟨hk.os, hk.tape, hk.output, hk.size, fun k hk' hne => hk.block k hk' (fun e => hne (by rw [e]))⟩ ?_
  cases e : v.ownBlock with
  | none => exact .inl rfl
  | some g =>
    have := (h'.lt g e).1
    refine .inr fun e2 => ?_
    cases e2
    omega
theorem Dor.grew {w w' : World} {base : Nat} {v : Value} {m : Nat} {K : Nat → Dt} (h : Dor w base v m K) (hb : Below w.heap.size w w') : Dor w' base v m K := by
  have h' : w.ownsRow base 40 5 v m (dcells K m) := h
  refine h'.kept (row := none) ⟨hb.os, hb.tape, hb.output, hb.size, fun k hk _ => hb.block k hk⟩ ?_
  cases e : v.ownBlock with
  | none => exact .inl rfl
  | some g => exact .inr (by simp)
theorem Dor.base {w : World} {base base' : Nat} {v : Value} {m : Nat} {K : Nat → Dt} (h : Dor w base v m K) (hb : base' ≤ base) : Dor w base' v m K := by
  obtain ⟨h1, h2⟩ := h
  refine ⟨h1, ?_⟩
  rcases h2 with h2 | ⟨g, cap, cur, e, hg, h3⟩
  · exact .inl h2
  · exact .inr ⟨g, cap, cur, e, Nat.le_trans hb hg, h3⟩
theorem Try.infoData : (Try.prog.info? 40).map (fun i => (i.zero, i.size, i.bytes)) = some (some (.agg #[.int .u16 0, .int .u16 0, .int .u32 0, .int .u16 0, .slice none 0 0]), 5, 40) := by kernel_rfl
/-- One more, from wherever it lies. -/
theorem Dor.push {W : World} {base : Nat} {v : Value} {m q : Nat} {K : Nat → Dt} {d : Dt} (ty : TypeId) (h : Dor W base v m K) (hf : DatAt W q d.s d.t d.f d.y d.a d.n d.c) (hm : m ≤ 1000) (hbase : base ≤ W.heap.size) :
    ∃ v' W', (Builtin.append_ #[31, 31] ty #[v, .slice (some ⟨q, 0, none⟩) 1 1]).run Try.prog W = .ok v' W' ∧ Dor W' base v' (m + 1) (fun i => if i < m then K i else d) ∧ W.grownBy W' v.ownBlock ∧ (v'.ownBlock = v.ownBlock ∨ v'.ownBlock = some W.heap.size) := by
  obtain ⟨i0, hi, hz0, hz1, hz2⟩ := info_parts Try.infoData
  obtain ⟨v', W', hr, hown, hgr, -, hwh⟩ := run_append_own_at (P := Try.prog) W base 31 ty 40 i0 (.agg #[.int .u16 0, .int .u16 0, .int .u32 0, .int .u16 0, .slice none 0 0]) 5 40 Try.underlying31 hi hz0 hz1 hz2 rfl (by decide) v m _ h ⟨q, 0, none⟩ 1 1 (fiveCells d) rfl
    (fun j u hj => by
      have hj5 : j < 5 := by
        have := (List.getElem?_eq_some_iff.1 hj).1
        exact this
      rw [five_get d j hj5] at hj
      cases hj
      rw [Addr.add_mid, Nat.zero_add]
      exact five_cell hf j hj5) (by intro u hu; simp [fiveCells] at hu; rcases hu with rfl | rfl | rfl | rfl | rfl <;> rfl) (by unfold maxLen; omega) (by omega) hbase
  refine ⟨v', W', hr, ?_, hgr, hwh⟩
  show W'.ownsRow _ _ _ _ _ _
  rw [← dcells_push]
  exact hown
where five_cell {W : World} {q : Nat} {d : Dt} (h : DatAt W q d.s d.t d.f d.y d.a d.n d.c) : ∀ j, j < 5 → W.cell? ⟨q, j, none⟩ = some (d.cell j)
  | 0, _ => h.c0
  | 1, _ => h.c1
  | 2, _ => h.c2
  | 3, _ => h.c3
  | 4, _ => h.c4
  | j + 5, hj => absurd hj (by omega)
theorem Dor.grown {W W' : World} {base : Nat} {v : Value} {m : Nat} {K : Nat → Dt} (h : Dor W base v m K) (hg : W.grownBy W' v.ownBlock) (hb : base ≤ W.heap.size) : Below base W W' :=
  ⟨hg.os, hg.tape, hg.output, hg.size, fun k hk => hg.block k (by omega) (fun e => by have := (World.ownsRow.lt h k e.symm).1; omega)⟩

/-- A body lies in new memory, apart from the row v. -/
structure Bdy (w : World) (base : Nat) (v : Value) (d : Dt) (y : Nat → Nat) : Prop where
  pl : ∃ g, d.a = some ⟨g, 0, none⟩ ∧ base ≤ g ∧ g < w.heap.size ∧ v.ownBlock ≠ some g
  bs : BytesAt w d.a d.n y
theorem Bdy.kept {R : Nat} {w w' : World} {base : Nat} {v : Value} {d : Dt} {y : Nat → Nat} (h : Bdy w base v d y) (hk : Kept R w w') (hR : R < base) : Bdy w' base v d y := by
  obtain ⟨g, e, h1, h2, h3⟩ := h.pl
  refine ⟨⟨g, e, h1, Nat.lt_of_lt_of_le h2 hk.size, h3⟩, ?_⟩
  have := h.bs
  rw [e] at this ⊢
  refine ⟨fun h0 => ?_, this.lt⟩
  obtain ⟨b, o, e1, hc⟩ := this.cells h0
  cases e1
  exact ⟨g, 0, rfl, fun i hi => hk.cell (hc i hi) (by omega)⟩
theorem Bdy.grew {w w' : World} {base : Nat} {v : Value} {d : Dt} {y : Nat → Nat} (h : Bdy w base v d y) (hb : Below w.heap.size w w') : Bdy w' base v d y := by
  obtain ⟨g, e, h1, h2, h3⟩ := h.pl
  exact ⟨⟨g, e, h1, Nat.lt_of_lt_of_le h2 hb.size, h3⟩, h.bs.grew hb⟩
theorem Bdy.grown {w w' : World} {base : Nat} {v v' : Value} {d : Dt} {y : Nat → Nat} (h : Bdy w base v d y) (hg : w.grownBy w' v.ownBlock) (hv : v'.ownBlock = v.ownBlock ∨ v'.ownBlock = some w.heap.size) : Bdy w' base v' d y := by
  obtain ⟨g, e, h1, h2, h3⟩ := h.pl
  refine ⟨⟨g, e, h1, Nat.lt_of_lt_of_le h2 hg.size, ?_⟩, ?_⟩
  · rcases hv with hv | hv
    · rw [hv]; exact h3
    · rw [hv]; intro e2; cases e2; omega
  · have := h.bs
    rw [e] at this ⊢
    exact this.grown hg h3
/-- Data of the call's own: the i-th's body is Y i. -/
structure Dts (w : World) (base : Nat) (v : Value) (m : Nat) (K : Nat → Dt) (Y : Nat → Nat → Nat) : Prop where
  row : Dor w base v m K
  body : ∀ q, q < m → Bdy w base v (K q) (Y q)
theorem Dts.nil (w : World) (base : Nat) (K : Nat → Dt) (Y : Nat → Nat → Nat) : Dts w base (.slice none 0 0) 0 K Y := ⟨Dor.nil _ _ _, fun q hq => absurd hq (Nat.not_lt_zero q)⟩
theorem Dts.kept {R : Nat} {w w' : World} {base m : Nat} {v : Value} {K : Nat → Dt} {Y : Nat → Nat → Nat} (h : Dts w base v m K Y) (hk : Kept R w w') (hR : R < base) : Dts w' base v m K Y := ⟨h.row.kept hk hR, fun q hq => (h.body q hq).kept hk hR⟩
theorem Dts.grew {w w' : World} {base m : Nat} {v : Value} {K : Nat → Dt} {Y : Nat → Nat → Nat} (h : Dts w base v m K Y) (hb : Below w.heap.size w w') : Dts w' base v m K Y := ⟨h.row.grew hb, fun q hq => (h.body q hq).grew hb⟩
theorem Dts.base {w : World} {base base' m : Nat} {v : Value} {K : Nat → Dt} {Y : Nat → Nat → Nat} (h : Dts w base v m K Y) (hb : base' ≤ base) : Dts w base' v m K Y :=
  ⟨h.row.base hb, fun q hq => by
    obtain ⟨⟨g, e, h1, h2⟩, h3⟩ := h.body q hq
    exact ⟨⟨g, e, Nat.le_trans hb h1, h2⟩, h3⟩⟩
/-- One more, from wherever it lies. -/
theorem Dts.push {W : World} {base : Nat} {v : Value} {m q : Nat} {K : Nat → Dt} {d : Dt} {Y : Nat → Nat → Nat} {y : Nat → Nat} (ty : TypeId) (h : Dts W base v m K Y) (hf : DatAt W q d.s d.t d.f d.y d.a d.n d.c) (hy : Bdy W base v d y) (hm : m ≤ 1000) (hbase : base ≤ W.heap.size) :
    ∃ v' W', (Builtin.append_ #[31, 31] ty #[v, .slice (some ⟨q, 0, none⟩) 1 1]).run Try.prog W = .ok v' W' ∧ Dts W' base v' (m + 1) (fun i => if i < m then K i else d) (fun i => if i < m then Y i else y) ∧ Below base W W' ∧ W.grownBy W' v.ownBlock := by
  obtain ⟨v', W', hr, ho, hg, hv⟩ := h.row.push ty hf hm hbase
  refine ⟨v', W', hr, ⟨ho, fun i hi => ?_⟩, h.row.grown hg hbase, hg⟩
  by_cases e : i < m
  · simp only [if_pos e]; exact (h.body i e).grown hg hv
  · simp only [if_neg e]; exact hy.grown hg hv
end Go.Proofs.Ythlidbenhlidjaa

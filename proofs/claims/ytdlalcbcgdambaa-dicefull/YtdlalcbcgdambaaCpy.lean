/-
  Two lists of rows that grow side by side, in memory of the call's own; lists of rows that are written in place.
-/
import Derived.Test.YtdlalcbcgdambaaRefRow
import Derived.Test.YtdlalcbcgdambaaTab
import Derived.Maps.AppendAt
namespace Go.Proofs.Ytdlalcbcgdambaa
open Go.RowKit Go.Deep

/-- A builtin append whose run is known, as one step of a region that draws. -/
theorem step_append_run {P : Program} {ops : Array Oper} {o : Oper} {a : Act} {w : World} {K : Act → World → Prop} {Q : Exit → Act → World → Prop} {E : Prop}
    (hg : o.guard = none) (s x : Operand) (t : TypeId) (hop : o.op = Op.call { callee := Callee.builtin Builtin.append, args := #[s, x], argTypes := #[t, t] })
    (vs vx : Value) (hs : a.eval s = vs) (hx : a.eval x = vx) (v' : Value) (w' : World) (hr : (Builtin.append_ #[t, t] o.type #[vs, vx]).run P w = .ok v' w') (hK : K (a.put o.dst v') w') :
    if Region.wanted o (yielded ops a.tmps) = true then Oper.wp P o a w K Q else E := by
  have hw : Region.wanted o (yielded ops a.tmps) = true := by simp [Region.wanted, hg]
  rw [if_pos hw]
  unfold Oper.wp
  simp [execOp, hop, resolve, invoke, builtin, hs, hx, hr, Result.andThen]
  exact hK

/-- append([]byte{}, s...), s of one byte or more: a new row. -/
theorem clone_run (b0 : Addr) (ty : TypeId) (r : Option Addr) (n c : Nat) (x : Nat → Nat) (W : World) (hx : BytesAt W r n x) (h0 : 0 < n) (hn : n ≤ 1000000) :
    ∃ cap W', (Builtin.append_ #[24, 24] ty #[.slice (some b0) 0 0, .slice r n c]).run Try.prog W = .ok (.slice (some ⟨W.heap.size, 0, none⟩) n cap) W' ∧ BytesAt W' (some ⟨W.heap.size, 0, none⟩) n x ∧ Below W.heap.size W W' := by
  obtain ⟨i0, hi, hz0, hz1, hz2⟩ := info_parts Try.infoByte
  obtain ⟨b, o, rfl⟩ := bytes_some hx h0
  have hr := run_append_grow (P := Try.prog) W 24 ty 5 i0 (.int .u8 0) Try.underlying24 hi hz0 b0 0 0 [] (by simp) (by intro j v hj; simp at hj) ⟨b, o, none⟩ n c (cellsAt x 0 n) (by rw [cellsAt_len, hz1, Nat.mul_one])
    (fun j v hj => by
      obtain ⟨hjn, rfl⟩ := cellsAt_get _ _ _ _ _ hj
      rw [Addr.add_mid, Nat.zero_add]
      exact bytes_cell hx j hjn) (by omega) (by omega) (growslice_fits (by omega) (by rw [hz2]; omega))
  simp only [Nat.zero_add] at hr
  refine ⟨_, _, hr, ⟨fun _ => ⟨W.heap.size, 0, rfl, fun i hi => ?_⟩, hx.lt⟩, (Below.refl _ W).drew.alloc (Nat.le_refl _) _⟩
  rw [Nat.zero_add, show (⟨W.heap.size, i, none⟩ : Addr) = ⟨W.drew.heap.size, i, none⟩ from rfl, World.cell?_alloc_at _ _ _ _ rfl]
  have hl : i < (cellsAt x 0 n).length := by rw [cellsAt_len]; exact hi
  simp only [Array.empty_append]
  rw [Array.getElem?_append_left (by simpa using hl)]
  simp [cellsAt, hi]

/-- The row v of the call's own holds j slices of n bytes, the i-th x i. -/
def Own (w : World) (base : Nat) (v : Value) (j n : Nat) (x : Nat → Nat → Nat) : Prop :=
  ∃ xs, w.ownsRow base 24 1 v j xs ∧ (j = 0 → ∀ g, v.ownBlock = some g → w.cell? ⟨g, 0, none⟩ = none) ∧ ∀ i, i < j → ∃ b c, xs[i]? = some (.slice (some ⟨b, 0, none⟩) n c) ∧ BytesAt w (some ⟨b, 0, none⟩) n (x i)

theorem Own.apart {w : World} {base : Nat} {v : Value} {j n m b : Nat} {x : Nat → Nat → Nat} {y : Nat → Nat} (h : Own w base v j n x) (hb : BytesAt w (some ⟨b, 0, none⟩) m y) (hm : 0 < m) : v.ownBlock ≠ some b := by
  intro e
  obtain ⟨xs, ho, h0, hx⟩ := h
  have h3 := bytes_cell hb 0 hm
  have hj : 0 < j := by
    by_cases hj : j = 0
    · rw [Nat.add_zero, h0 hj b e] at h3; cases h3
    · omega
  obtain ⟨b1, c1, h1, -⟩ := hx 0 hj
  have h2 := ho.cells e 0 _ h1
  rw [show (⟨b, 0, none⟩ : Addr).add 0 = ⟨b, 0, none⟩ from rfl] at h2
  rw [Nat.add_zero, h2] at h3
  cases h3
theorem BytesAt.grown {w w' : World} {row : Option Nat} {b n : Nat} {x : Nat → Nat} (h : BytesAt w (some ⟨b, 0, none⟩) n x) (hg : w.grownBy w' row) (hne : row ≠ some b) : BytesAt w' (some ⟨b, 0, none⟩) n x := by
  refine ⟨fun hn => ?_, h.lt⟩
  obtain ⟨b', o, e, hc⟩ := h.cells hn
  cases e
  exact ⟨b, 0, rfl, fun i hi => by rw [World.cell?_of_block (w := w) (hg.block b (cell_lt (hc i hi)) (Ne.symm hne)), hc i hi]⟩
theorem Own.grew {w w' : World} {base : Nat} {v : Value} {j n : Nat} {x : Nat → Nat → Nat} (h : Own w base v j n x) (hb : Below w.heap.size w w') : Own w' base v j n x := by
  obtain ⟨xs, ho, h0, hx⟩ := h
  refine ⟨xs, ho.kept (row := none) ⟨hb.os, hb.tape, hb.output, hb.size, fun k hk _ => hb.block k hk⟩ ?_, fun hj g e => (hb.cell (p := ⟨g, 0, none⟩) (ho.lt g e).2).trans (h0 hj g e), fun i hi => ?_⟩
  · cases e : v.ownBlock with
    | none => exact .inl rfl
    | some g => exact .inr (by simp)
  · obtain ⟨b, c, h1, h2⟩ := hx i hi
    exact ⟨b, c, h1, h2.grew hb⟩

/-- Two lists behind ja and jb rounds. -/
structure Cp (w0 w : World) (va vb : Value) (ja jb k size : Nat) (V Y : Nat → Nat → Nat) : Prop where
  a : Own w w0.heap.size va ja k V
  b : Own w w0.heap.size vb jb size Y
  ne : ∀ g, va.ownBlock = some g → vb.ownBlock ≠ some g
  below : Below w0.heap.size w0 w
theorem Cp.grew {w0 w w' : World} {va vb : Value} {ja jb k size : Nat} {V Y : Nat → Nat → Nat} (h : Cp w0 w va vb ja jb k size V Y) (hb : Below w.heap.size w w') : Cp w0 w' va vb ja jb k size V Y :=
  ⟨h.a.grew hb, h.b.grew hb, h.ne, h.below.trans (hb.mono h.below.size)⟩
theorem Cp.turn {w0 w : World} {va vb : Value} {ja jb k size : Nat} {V Y : Nat → Nat → Nat} (h : Cp w0 w va vb ja jb k size V Y) : Cp w0 w vb va jb ja size k Y V :=
  ⟨h.b, h.a, fun g e1 e2 => h.ne g e2 e1, h.below⟩

theorem Cp.push {w0 W : World} {va vb : Value} {ja jb k size : Nat} {V Y : Nat → Nat → Nat} (h : Cp w0 W va vb ja jb k size V Y) (q g c : Nat) (ty : TypeId) (hc : W.cell? ⟨q, 0, none⟩ = some (.slice (some ⟨g, 0, none⟩) k c)) (hB : BytesAt W (some ⟨g, 0, none⟩) k (V ja)) (hk : 0 < k) (hs : 0 < size) (hj : ja ≤ 1000) :
    ∃ va' W', (Builtin.append_ #[34, 34] ty #[va, .slice (some ⟨q, 0, none⟩) 1 1]).run Try.prog W = .ok va' W' ∧ Cp w0 W' va' vb (ja + 1) jb k size V Y := by
  obtain ⟨i0, hi, hz0, hz1, hz2⟩ := info_parts Try.infoRow
  obtain ⟨xs, ho, h0, hx⟩ := h.a
  have hbase := h.below.size
  obtain ⟨va', W', hr, hown, hgr, hnil, hat⟩ := run_append_own_at (P := Try.prog) W w0.heap.size 34 ty 24 i0 (.slice none 0 0) 1 24 Try.underlying34 hi hz0 hz1 hz2 rfl (by decide) va ja xs ho ⟨q, 0, none⟩ 1 1 [.slice (some ⟨g, 0, none⟩) k c] rfl
    (fun j u hj => by
      cases j with
      | zero => cases hj; exact hc
      | succ j => simp at hj) (by intro u hu; simp at hu; subst hu; rfl) (by unfold maxLen; omega) (by omega) hbase
  have hlt := ho.lt
  refine ⟨va', W', hr, ⟨⟨_, hown, fun e => absurd e (by omega), fun i hi => ?_⟩, ?_, ?_, h.below.grown hgr hbase (fun k' e => (hlt k' e).1)⟩⟩
  · by_cases e : i = ja
    · subst e
      refine ⟨g, c, ?_, hB.grown hgr (h.a.apart hB hk)⟩
      have hl := ho.1
      rw [Nat.mul_one] at hl
      rw [List.getElem?_append_right (by omega), hl, Nat.sub_self]
      rfl
    · obtain ⟨b, cc, h1, h2⟩ := hx i (by omega)
      have hl := ho.1
      rw [Nat.mul_one] at hl
      exact ⟨b, cc, by rw [List.getElem?_append_left (by omega)]; exact h1, h2.grown hgr (h.a.apart h2 hk)⟩
  · obtain ⟨ys, po, p0, px⟩ := h.b
    refine ⟨ys, po.kept hgr ?_, fun hj g' e => ?_, fun i hi => ?_⟩
    rotate_left
    · rw [World.cell?_of_block (w := W) (hgr.block g' (po.lt g' e).2 (fun e2 => h.ne g' e2.symm e))]
      exact p0 hj g' e
    rotate_left
    · cases e : vb.ownBlock with
      | none => exact .inl rfl
      | some gb =>
        refine .inr fun e2 => ?_
        exact h.ne gb e2.symm e
    · obtain ⟨b, cc, h1, h2⟩ := px i hi
      exact ⟨b, cc, h1, h2.grown hgr (h.a.apart h2 hs)⟩
  · intro g' e1 e2
    obtain ⟨ys, po, -, -⟩ := h.b
    rcases hat with e | e
    · rw [e] at e1; exact h.ne g' e1 e2
    · rw [e] at e1
      have := (po.lt g' e2).2
      have := Option.some.inj e1
      omega

/-- The block g holds m slices of n bytes, the i-th x i, and may be written. -/
structure Lst (w : World) (g cap m n : Nat) (x : Nat → Nat → Nat) : Prop where
  le : m ≤ cap
  row : ∃ A, w.rowIs g 24 cap A ∧ ∀ i, i < m → ∃ b c, A i = .slice (some ⟨b, 0, none⟩) n c ∧ BytesAt w (some ⟨b, 0, none⟩) n (x i)
  m1 : 0 < m
  n1 : 0 < n
theorem Own.lst {w : World} {base : Nat} {v : Value} {j n : Nat} {x : Nat → Nat → Nat} (h : Own w base v j n x) (hj : 0 < j) (hn : 0 < n) : ∃ g cap, v = .slice (some ⟨g, 0, none⟩) j cap ∧ base ≤ g ∧ Lst w g cap j n x := by
  obtain ⟨xs, ho, -, hx⟩ := h
  rcases ho.2 with ⟨-, e⟩ | ⟨g, cap, cur, rfl, hb, hg, hle, -, hs, ht⟩
  · omega
  · rw [Nat.mul_one] at hs ht
    refine ⟨g, cap, rfl, hb, hle, ⟨fun i => cur.getD i undef, ⟨cur, hg, hs, fun i hi => by simp [Array.getD, hs, hi]⟩, fun i hi => ?_⟩, hj, hn⟩
    obtain ⟨b, c, h1, h2⟩ := hx i hi
    refine ⟨b, c, ?_, h2⟩
    have e : cur.toList[i]? = some (.slice (some ⟨b, 0, none⟩) n c) := by rw [← h1, ← ht, List.getElem?_take_of_lt hi]
    rw [Array.getElem?_toList] at e
    obtain ⟨hl, e⟩ := Array.getElem?_eq_some_iff.1 e
    show cur.getD i undef = _
    rw [Array.getD, dif_pos hl]
    exact e
theorem Lst.at {w : World} {g cap m n : Nat} {x : Nat → Nat → Nat} (h : Lst w g cap m n x) (i : Nat) (hi : i < m) : ∃ b c, w.cell? ⟨g, i, none⟩ = some (.slice (some ⟨b, 0, none⟩) n c) ∧ BytesAt w (some ⟨b, 0, none⟩) n (x i) ∧ w.frozen? ⟨g, i, none⟩ = false := by
  obtain ⟨A, hr, hA⟩ := h.row
  obtain ⟨b, c, h1, h2⟩ := hA i hi
  exact ⟨b, c, by rw [hr.cell (by have := h.le; omega), h1], h2, hr.frozen i⟩
theorem Lst.lt {w : World} {g cap m n : Nat} {x : Nat → Nat → Nat} (h : Lst w g cap m n x) : g < w.heap.size := by obtain ⟨A, hr, -⟩ := h.row; exact hr.lt
theorem Lst.ne {w : World} {g cap m n b n' : Nat} {x : Nat → Nat → Nat} {y : Nat → Nat} (h : Lst w g cap m n x) (hb : BytesAt w (some ⟨b, 0, none⟩) n' y) (hn : 0 < n') : b ≠ g := by
  rintro rfl
  obtain ⟨b1, c1, h1, -⟩ := h.at 0 h.m1
  have h3 := bytes_cell hb 0 hn
  rw [Nat.add_zero, h1] at h3
  cases h3
theorem Lst.grew {w w' : World} {g cap m n : Nat} {x : Nat → Nat → Nat} (h : Lst w g cap m n x) (hb : Below w.heap.size w w') : Lst w' g cap m n x := by
  obtain ⟨A, hr, hA⟩ := h.row
  refine ⟨h.le, ⟨A, hr.of_block (hb.block g hr.lt), fun i hi => ?_⟩, h.m1, h.n1⟩
  obtain ⟨b, c, h1, h2⟩ := hA i hi
  exact ⟨b, c, h1, h2.grew hb⟩
theorem Lst.set {w : World} {g cap m n b c : Nat} {x : Nat → Nat → Nat} {y : Nat → Nat} (h : Lst w g cap m n x) (i : Nat) (hb : BytesAt w (some ⟨b, 0, none⟩) n y) (x' : Nat → Nat → Nat) (hx : ∀ j, j < m → x' j = if j = i then y else x j) :
    Lst (w.setCell ⟨g, i, none⟩ (.slice (some ⟨b, 0, none⟩) n c)) g cap m n x' := by
  obtain ⟨A, hr, hA⟩ := h.row
  refine ⟨h.le, ⟨_, hr.set i _, fun j hj => ?_⟩, h.m1, h.n1⟩
  rw [hx j hj]
  by_cases e : j = i
  · rw [if_pos e, if_pos e]
    exact ⟨b, c, rfl, hb.setOther (h.ne hb h.n1)⟩
  · rw [if_neg e, if_neg e]
    obtain ⟨b', c', h1, h2⟩ := hA j hj
    exact ⟨b', c', h1, h2.setOther (h.ne h2 h.n1)⟩
theorem Lst.other {w : World} {g cap m n g' cap' m' n' : Nat} {x x' : Nat → Nat → Nat} (h : Lst w g cap m n x) (h' : Lst w g' cap' m' n' x') (hne : g ≠ g') (i : Nat) (v : Value) : Lst (w.setCell ⟨g', i, none⟩ v) g cap m n x := by
  obtain ⟨A, hr, hA⟩ := h.row
  refine ⟨h.le, ⟨A, hr.setOther hne v, fun j hj => ?_⟩, h.m1, h.n1⟩
  obtain ⟨b, c, h1, h2⟩ := hA j hj
  exact ⟨b, c, h1, h2.setOther (h'.ne h2 h.n1)⟩
end Go.Proofs.Ytdlalcbcgdambaa

/-
  The document's Queue: rows of wants put together.
-/
import Derived.Test.YtaikkoijoolhkaaPd4
namespace Go.Proofs.Ytaikkoijoolhkaa
open Go.RowKit Go.Deep

/-- A list of wants, as a slice: where, how many, room. -/
structure Wsl (w : World) (v : Value) (l : List Wn) : Prop where
  is : ∃ r c, v = .slice r l.length c ∧ LsAt wE w r l ∧ (r = none → l = [] ∧ c = 0) ∧ ∀ x, r = some x → ∃ b o, r = some ⟨b, o, none⟩
theorem Wsl.below {w w' : World} {v : Value} {l : List Wn} {B : Nat} (h : Wsl w v l) (hb : Below B w w') (hB : w.heap.size ≤ B) : Wsl w' v l := by
  obtain ⟨r, c, h1, h2, h3⟩ := h.is
  exact ⟨r, c, h1, h2.below hb hB, h3⟩
theorem wr_wsl {w : World} {base : Nat} {v : Value} {l : List Wn} (h : Wr w base v l) : ∃ r c, v = .slice r l.length c ∧ l.length ≤ c ∧ Wsl w v l ∧ (∀ k, k ≤ l.length → ∀ W, (Instr.slice 41 v none (some (.int .i64 (k : Int))) none).run Try.prog W = .ok (.slice r k c) W) ∧
    (∀ k, k ≤ l.length → Wsl w (.slice r k c) (l.take k)) ∧ (∀ k, k ≤ l.length → ∃ v', (∀ W, (Instr.slice 41 v (some (.int .i64 (k : Int))) none none).run Try.prog W = .ok v' W) ∧ Wsl w v' (l.drop k)) := by
  obtain ⟨r, c, rfl, hls, hle, hnone, hsome⟩ := Lr.any h
  have hc : r = none → c = 0 := fun e => by
    subst e
    rcases h.2 with ⟨e1, -⟩ | ⟨g, c2, cur, e1, -⟩
    · injection e1
    · cases e1
  have hso : ∀ x, r = some x → ∃ b o, r = some ⟨b, o, none⟩ := fun x e => by obtain ⟨g, e2, -⟩ := hsome x e; exact ⟨g, 0, e2⟩
  refine ⟨r, c, rfl, hle, ⟨r, c, rfl, hls, fun e => ⟨hnone e, hc e⟩, hso⟩, fun k hk W => wcut_to r l.length c k W (by omega), fun k hk => ?_, fun k hk => ?_⟩
  · have hl : (l.take k).length = k := by rw [List.length_take]; omega
    refine ⟨r, c, by rw [hl], fun h0 => ?_, fun e => ⟨by rw [hnone e]; simp, hc e⟩, hso⟩
    obtain ⟨b, o, e, hcell⟩ := hls (by omega)
    refine ⟨b, o, e, fun i hi j u hu => hcell i (by omega) j u ?_⟩
    rwa [List.getElem_take] at hu
  · by_cases he : k = l.length
    · subst he
      obtain ⟨a', h1, h3, h2⟩ := wcut_end r l.length c hle
      refine ⟨_, h2, ⟨a', _, by rw [List.drop_length]; rfl, by rw [List.drop_length]; exact LsAt.nil _ _, fun e => ⟨by simp, by rw [hc (h1.1 e)]; simp⟩, fun x e => ?_⟩⟩
      cases r with
      | none => rw [h1.2 rfl] at e; cases e
      | some y =>
        obtain ⟨g, e2, -⟩ := hsome y rfl
        exact h3 g 0 e2
    · cases r with
      | none => have := hnone rfl; subst this; simp at he hk; omega
      | some y =>
        obtain ⟨g, e2, -⟩ := hsome y rfl
        cases e2
        refine ⟨_, fun W => wcut_from g 0 l.length c k W (by omega) hle, ⟨_, _, by rw [List.length_drop], fun h0 => ?_, fun e => (by cases e), fun x e => ⟨_, _, rfl⟩⟩⟩
        refine ⟨g, 0 + k * 3, rfl, fun i hi j u hu => ?_⟩
        rw [List.length_drop] at hi
        rw [List.getElem_drop] at hu
        have := hls.at (k + i) (by omega) j u hu
        rw [show (0 : Nat) + ((k + i) * wE.n + j) = 0 + k * 3 + (i * wE.n + j) by rw [show wE.n = 3 from rfl]; omega] at this
        exact this
/-- All of a slice, appended to a row of the call's own. -/
theorem wr_all {W : World} {base : Nat} {vE vs : Value} {X m : List Wn} (ty : TypeId) (h : Wr W base vE X) (hs : Wsl W vs m) (hl : X.length + m.length ≤ 100000) (hbase : base ≤ W.heap.size) :
    ∃ r c W', (Builtin.append_ #[41, 41] ty #[vE, vs]).run Try.prog W = .ok (.slice r (X ++ m).length c) W' ∧ Wr W' base (.slice r (X ++ m).length c) (X ++ m) ∧ W.grownBy W' vE.ownBlock ∧ ((Value.slice r (X ++ m).length c).ownBlock = vE.ownBlock ∨ (Value.slice r (X ++ m).length c).ownBlock = some W.heap.size) := by
  obtain ⟨i0, hi, hz0, hz1, hz2⟩ := info_parts Try.infoWant
  obtain ⟨r, c, rfl, hls, hn, hsm⟩ := hs.is
  cases hr : r with
  | none =>
    obtain ⟨h1, h2⟩ := hn hr
    subst h1
    subst h2
    obtain ⟨rE, cE, rfl, -, hle, -⟩ := Lr.any h
    rw [List.append_nil]
    exact ⟨rE, cE, W, run_append_nothing (P := Try.prog) W 41 41 ty 45 i0 Try.underlying41 hi rE X.length cE hle (.slice none 0 0) (Src.ofNil (P := Try.prog) W Try.underlying41 0), h, ⟨rfl, rfl, rfl, Nat.le_refl _, fun _ _ _ => rfl⟩, .inl rfl⟩
  | some x =>
    obtain ⟨b, o, e⟩ := hsm x hr
    rw [e] at hls
    rw [← hr, e]
    have hh : (X.length + m.length) * 24 ≤ 140737488355328 := by omega
    obtain ⟨v', W', hrun, hown, hgr, -, hwh⟩ := run_append_own_at (P := Try.prog) W base 41 ty 45 i0 _ 3 24 Try.underlying41 hi hz0 hz1 hz2 rfl (by decide) vE X.length (wE.rows X) h ⟨b, o, none⟩ m.length c (wE.rows m) (wE.rows_len m)
      (fun j u hj => by
        have hj' := (List.getElem?_eq_some_iff.1 hj).1
        rw [wE.rows_len] at hj'
        have hj' : j < m.length * 3 := hj'
        have h1 : j / 3 < m.length := by omega
        have h3 : j / 3 * 3 + j % 3 = j := by omega
        have := wE.rows_get m (j / 3) (j % 3) h1 (Nat.mod_lt _ (by decide))
        rw [show j / 3 * wE.n + j % 3 = j from h3, hj] at this
        have := hls.at (j / 3) h1 (j % 3) u this.symm
        rw [show j / 3 * wE.n + j % 3 = j from h3] at this
        rw [Addr.add_mid]
        exact this) (fun u hu => by
        obtain ⟨a, -, ha⟩ := List.mem_flatMap.1 hu
        exact wE.one a u ha) (by unfold maxLen; omega) hh hbase
    have hO : Wr W' base v' (X ++ m) := by
      show W'.ownsRow _ _ _ _ _ _
      rw [wE.rows_append, List.length_append]
      exact hown
    obtain ⟨r2, c2, rfl, -⟩ := Lr.any hO
    exact ⟨r2, c2, W', hrun, hO, hgr, hwh⟩
theorem wr_push' {W : World} {base : Nat} {v : Value} {q : Nat} {l : List Wn} {a : Wn} (ty : TypeId) (h : Wr W base v l) (ha : WnAt W q 0 a) (hm : l.length ≤ 100000) (hbase : base ≤ W.heap.size) :
    ∃ r c W', (Builtin.append_ #[41, 41] ty #[v, .slice (some ⟨q, 0, none⟩) 1 1]).run Try.prog W = .ok (.slice r (l ++ [a]).length c) W' ∧ Wr W' base (.slice r (l ++ [a]).length c) (l ++ [a]) ∧ W.grownBy W' v.ownBlock ∧ ((Value.slice r (l ++ [a]).length c).ownBlock = v.ownBlock ∨ (Value.slice r (l ++ [a]).length c).ownBlock = some W.heap.size) := by
  obtain ⟨v', W', h1, h2, h3, h4⟩ := wr_push ty h ha hm hbase
  obtain ⟨r, c, rfl, -⟩ := Lr.any h2
  exact ⟨r, c, W', h1, h2, h3, h4⟩
theorem wr_first {W : World} {base : Nat} {vE vs : Value} {m : List Wn} (ty : TypeId) (h : Wr W base vE []) (hs : Wsl W vs m) (hl : m.length ≤ 100000) (hbase : base ≤ W.heap.size) :
    ∃ r c W', (Builtin.append_ #[41, 41] ty #[vE, vs]).run Try.prog W = .ok (.slice r m.length c) W' ∧ Wr W' base (.slice r m.length c) m ∧ W.grownBy W' vE.ownBlock ∧ ((Value.slice r m.length c).ownBlock = vE.ownBlock ∨ (Value.slice r m.length c).ownBlock = some W.heap.size) := by
  have := wr_all ty h hs (by simpa using hl) hbase
  rw [List.nil_append] at this
  exact this
/-- On the way: all that lay in V. -/
structure Rt (V : World) (W : World) : Prop where
  bel : Below V.heap.size V W
theorem Rt.grew {V W W' : World} (h : Rt V W) (b : Below W.heap.size W W') : Rt V W' := ⟨h.bel.trans (b.mono h.bel.size)⟩
theorem Rt.grown {V W W' : World} {v : Value} {X : List Wn} (h : Rt V W) (hr : Wr W V.heap.size v X) (g : W.grownBy W' v.ownBlock) : Rt V W' :=
  ⟨h.bel.trans ⟨g.os, g.tape, g.output, g.size, fun k hk => g.block k (by have := h.bel.size; omega) (fun e => by have := (Lr.lt hr k e.symm).1; omega)⟩⟩
theorem wn_grown {W W' : World} {v v' : Value} {X : List Wn} {H base : Nat} {a : Wn} (h : WnAt W H 0 a) (_hr : Wr W base v X) (hne : v.ownBlock ≠ some H) (g : W.grownBy W' v.ownBlock) (hv : v'.ownBlock = v.ownBlock ∨ v'.ownBlock = some W.heap.size) : WnAt W' H 0 a ∧ v'.ownBlock ≠ some H := by
  have hl := cell_lt h.c0
  refine ⟨h.block (g.block H hl (fun e => hne e.symm)), fun e => ?_⟩
  rcases hv with hv | hv
  · rw [hv] at e; exact hne e
  · rw [hv] at e; injection e with e; omega
end Go.Proofs.Ytaikkoijoolhkaa

/-
  A row of bytes of the call's own, appended to.
-/
import Derived.Test.YthlidbenhlidjaaMem
namespace Go.Proofs.Ythlidbenhlidjaa
open Go.RowKit Go.Deep

/-- A row of the call's own, of n bytes x. -/
def Ror (w : World) (base : Nat) (v : Value) (n : Nat) (x : Nat → Nat) : Prop := w.ownsRow base 5 1 v n (cellsAt x 0 n)

theorem Ror.nil (w : World) (base : Nat) (x : Nat → Nat) : Ror w base (.slice none 0 0) 0 x := ⟨rfl, .inl ⟨rfl, rfl⟩⟩

theorem Ror.push {W : World} {base : Nat} {v : Value} {n m c : Nat} {x y z : Nat → Nat} {a : Option Addr} (ty : TypeId) (h : Ror W base v n x) (hy : BytesAt W a m y) (hn : n + m ≤ 1000000) (hbase : base ≤ W.heap.size) (h1 : ∀ i, i < n → x i = z i) (h2 : ∀ i, i < m → y i = z (n + i)) :
    ∃ v' W', (Builtin.append_ #[26, 26] ty #[v, .slice a m c]).run Try.prog W = .ok v' W' ∧ Ror W' base v' (n + m) z ∧ W.grownBy W' v.ownBlock := by
  obtain ⟨i0, hi, hz0, hz1, hz2⟩ := info_parts Try.infoByte
  have e : cellsAt x 0 n ++ cellsAt y 0 m = cellsAt z 0 (n + m) := by
    rw [cat_cells]
    unfold cellsAt
    refine List.map_congr_left fun i hi => ?_
    have hi := List.mem_range.1 hi
    rw [Nat.zero_add]
    unfold cat
    by_cases g : i < n
    · rw [if_pos g, h1 i g]
    · rw [if_neg g, h2 (i - n) (by omega), show n + (i - n) = i by omega]
  cases a with
  | some a =>
    obtain ⟨v', W', hr, hown, hgr, -, -⟩ := run_append_own_at (P := Try.prog) W base 26 ty 5 i0 (.int .u8 0) 1 1 Try.underlying26 hi hz0 hz1 hz2 rfl (by decide) v n _ h a m c (cellsAt y 0 m) (by rw [cellsAt_len, Nat.mul_one])
      (fun j u hj => by
        obtain ⟨hjn, rfl⟩ := cellsAt_get _ _ _ _ _ hj
        obtain ⟨b, o, e, hc⟩ := hy.cells (by omega)
        cases e
        rw [Addr.add_mid, Nat.zero_add]
        exact hc j hjn) (cellsAt_one _ _ _) (by unfold maxLen; omega) (by omega) hbase
    rw [e] at hown
    exact ⟨v', W', hr, hown, hgr⟩
  | none =>
    obtain rfl : m = 0 := by
      by_cases g : 0 < m
      · obtain ⟨b, o, e, -⟩ := hy.cells g
        cases e
      · omega
    refine ⟨v, W, ?_, ?_, ⟨rfl, rfl, rfl, Nat.le_refl _, fun _ _ _ => rfl⟩⟩
    · rcases h.2 with ⟨rfl, rfl⟩ | ⟨g, cap, cur, rfl, _, _, hnc, _⟩
      · simp [Builtin.append_, run_underlying Try.underlying26, sizeOf, typeInfo, hi, Builtin.lenOf, Builtin.firstCells]
      · simp [Builtin.append_, run_underlying Try.underlying26, sizeOf, typeInfo, hi, Builtin.lenOf, Builtin.firstCells, hnc, storeCells]
    · show W.ownsRow _ _ _ _ _ _
      rw [← e]
      have h' : W.ownsRow base 5 1 v n (cellsAt x 0 n) := h
      simpa [cellsAt] using h'

theorem Ror.congr {w : World} {base : Nat} {v : Value} {n : Nat} {x y : Nat → Nat} (h : Ror w base v n x) (e : ∀ i, i < n → x i = y i) : Ror w base v n y := by
  have h' : w.ownsRow base 5 1 v n (cellsAt x 0 n) := h
  have hc : cellsAt x 0 n = cellsAt y 0 n := by
    unfold cellsAt
    refine List.map_congr_left fun i hi => ?_
    rw [Nat.zero_add, e i (List.mem_range.1 hi)]
  rw [hc] at h'
  exact h'
theorem Ror.grown {w w' : World} {base : Nat} {v : Value} {n : Nat} {x : Nat → Nat} (h : Ror w base v n x) (hb : Below w.heap.size w w') : Ror w' base v n x := by
  have h' : w.ownsRow base 5 1 v n (cellsAt x 0 n) := h
  refine h'.kept (row := none) ⟨hb.os, hb.tape, hb.output, hb.size, fun k hk _ => hb.block k hk⟩ ?_
  cases e : v.ownBlock with
  | none => exact .inl rfl
  | some g => exact .inr (by simp)

theorem Ror.lt {w : World} {base : Nat} {v : Value} {n : Nat} {x : Nat → Nat} (h : Ror w base v n x) : ∀ g, v.ownBlock = some g → base ≤ g ∧ g < w.heap.size := fun g e => World.ownsRow.lt h g e
theorem ror_form {w : World} {base : Nat} {v : Value} {n : Nat} {x : Nat → Nat} (h : Ror w base v n x) (hn : 0 < n) : ∃ g cap, v = .slice (some ⟨g, 0, none⟩) n cap := by
  rcases h.2 with ⟨_, h0⟩ | ⟨g, cap, _, hv, _⟩
  · omega
  · exact ⟨g, cap, hv⟩
theorem ror_cap {w : World} {base g n cap : Nat} {x : Nat → Nat} (h : Ror w base (.slice (some ⟨g, 0, none⟩) n cap) n x) : n ≤ cap := by
  rcases h.2 with ⟨e, _⟩ | ⟨g', cap', _, hv, _, _, hc, _⟩
  · cases e
  · cases hv
    exact hc
theorem ror_bytes {w : World} {base g n cap : Nat} {x : Nat → Nat} (h : Ror w base (.slice (some ⟨g, 0, none⟩) n cap) n x) (hx : ∀ i, i < n → x i < 256) : BytesAt w (some ⟨g, 0, none⟩) n x := by
  obtain ⟨g', c', e, -, -, hb, -⟩ := own_at h (by simp) hx
  cases e
  exact hb
theorem ror_any {w : World} {base : Nat} {v : Value} {n : Nat} {x : Nat → Nat} (h : Ror w base v n x) (hx : ∀ i, i < n → x i < 256) :
    ∃ r cap, v = .slice r n cap ∧ n ≤ cap ∧ cap ≤ maxLen ∧ (0 < n → ∃ g, r = some ⟨g, 0, none⟩ ∧ base ≤ g) ∧ BytesAt w r n x := by
  rcases h.2 with ⟨rfl, rfl⟩ | ⟨g, cap, cur, rfl, hb, hh, hle, hm, hs, ht⟩
  · exact ⟨none, 0, rfl, Nat.le_refl _, Nat.zero_le _, fun h => absurd h (by omega), ⟨fun h => absurd h (by omega), fun i hi => absurd hi (by omega)⟩⟩
  · exact ⟨_, cap, rfl, hle, hm, fun _ => ⟨g, rfl, hb⟩, ror_bytes h hx⟩
/-- []byte{} -/
theorem Ror.empty (w : World) (base : Nat) (x : Nat → Nat) (h : base ≤ w.heap.size) : Ror (w.alloc (.cells #[] 5)) base (.slice (some ⟨w.heap.size, 0, none⟩) 0 0) 0 x := by
  refine ⟨rfl, .inr ⟨w.heap.size, 0, #[], rfl, h, (by show (w.heap.push _)[w.heap.size]? = _; simp), Nat.le_refl _, Nat.zero_le _, rfl, rfl⟩⟩
/-- What has grown lies behind what lay there. -/
theorem grown_below {w W W' : World} {base : Nat} {v : Value} {n : Nat} {x : Nat → Nat} (h : Ror W base v n x) (hg : W.grownBy W' v.ownBlock) (hb : Below base w W) (hs : base ≤ W.heap.size) : Below base w W' :=
  hb.trans ⟨hg.os, hg.tape, hg.output, hg.size, fun k hk => hg.block k (by omega) (fun e => by have := (h.lt k e.symm).1; omega)⟩
end Go.Proofs.Ythlidbenhlidjaa

/-
  The document's Split, in memory: what came in, the row of what each gets, who was served.
-/
import Derived.Test.YtijjhjlopfbeiaaDoorPrw
import Derived.Deep.RegionHeld
import Derived.OrdersHeld
namespace Go.Proofs.YtijjhjlopfbeiaaDoor
open Go.RowKit Go.Deep

/-- The block D holds n Booleans, the i-th z i, and may be written. -/
structure BRow (w : World) (D n : Nat) (z : Nat → Bool) : Prop where
  cell : ∀ i, i < n → w.cell? ⟨D, i, none⟩ = some (.bool (z i))
  thaw : ∀ i, w.frozen? ⟨D, i, none⟩ = false
theorem BRow.block {w w' : World} {D n : Nat} {z : Nat → Bool} (h : BRow w D n z) (e : w'.heap[D]? = w.heap[D]?) : BRow w' D n z :=
  ⟨fun i hi => (World.cell?_of_block (a := ⟨D, i, none⟩) e).trans (h.cell i hi), fun i => (World.frozen?_of_block (a := ⟨D, i, none⟩) e).trans (h.thaw i)⟩
theorem BRow.put {w : World} {D n i : Nat} {z z' : Nat → Bool} {v : Bool} (h : BRow w D n z) (hi : i < n) (hz : ∀ j, j < n → z' j = if j = i then v else z j) : BRow (w.setCell ⟨D, i, none⟩ (.bool v)) D n z' := by
  refine ⟨fun j hj => ?_, fun j => by rw [World.frozen?_setCell]; exact h.thaw j⟩
  rw [hz j hj]
  by_cases e : j = i
  · rw [if_pos e, e, World.cell?_setCell_same _ _ _ (h.cell i hi)]
  · rw [if_neg e, World.cell?_setCell_other _ _ _ _ (fun q => e (Addr.mk.inj q).2.1.symm)]
    exact h.cell j hj
theorem Tryd.infoBool : (Tryd.prog.info? 4).map (fun i => (i.zero, i.size, i.bytes)) = some (some (.bool false), 1, 1) := by kernel_rfl
theorem make_bools (m : Nat) (w : World) (hm : m ≤ 1000) : (Instr.makeSlice 50 (.int .i64 (m : Int)) (.int .i64 (m : Int))).run Tryd.prog w = .ok (.slice (some ⟨w.heap.size, 0, none⟩) m m) (w.alloc (.cells (madeCells #[.bool false] m) 4)) := by
  obtain ⟨i0, hi, hz0, hz1, hz2⟩ := info_parts Tryd.infoBool
  have := run_makeSlice (P := Tryd.prog) w 50 4 i0 _ Tryd.underlying50 hi hz0 .i64 .i64 (m : Int) (m : Int) (by omega) (Int.le_refl _) (by rw [hz1]; simp; omega) (by rw [hz2]; omega) (by omega)
  rw [hz1] at this
  simpa [Value.cells] using this
theorem BRow.made (w : World) (m : Nat) : BRow (w.alloc (.cells (madeCells #[.bool false] m) 4)) w.heap.size m (fun _ => false) := by
  refine ⟨fun i hi => ?_, fun i => frozen_of_row _ w.heap.size i _ _ (heap_alloc_new w _)⟩
  rw [World.cell?_alloc_at _ _ _ _ rfl]
  simp [madeCells, hi, Nat.mod_one]
/-- A row of ints of the call's own that is not empty: its block. -/
theorem Ior.irow {w : World} {base : Nat} {v : Value} {n : Nat} {x : Nat → Int} (h : Ior w base v n x) (h0 : 0 < n) : ∃ g cap, v = .slice (some ⟨g, 0, none⟩) n cap ∧ base ≤ g ∧ g < w.heap.size ∧ IRow w g n x := by
  have hl : ∀ g, v.ownBlock = some g → base ≤ g ∧ g < w.heap.size := fun g e => World.ownsRow.lt h g e
  rcases h.2 with ⟨rfl, rfl⟩ | ⟨g, cap, cur, rfl, hb, hh, hle, hm, hs, ht⟩
  · omega
  · refine ⟨g, cap, rfl, hb, (hl g rfl).2, fun i hi => ?_, fun i => frozen_of_row _ g i _ _ hh⟩
    have e : cur.toList[i]? = some (.int .i64 (x i)) := by
      have : (cur.toList.take (n * 1))[i]? = cur.toList[i]? := by rw [List.getElem?_take_of_lt (by omega)]
      rw [← this, ht]
      simp [icells, hi]
    simp [World.cell?, hh]
    simpa using e
/-- Was p one of the first t who were served? -/
def dn (o : Nat → Nat) (t p : Nat) : Bool := (List.range t).any fun s => o s == p
theorem dn_iff {o : Nat → Nat} {t p : Nat} : dn o t p = true ↔ ∃ s, s < t ∧ o s = p := by simp [dn]
theorem dn_no {o : Nat → Nat} {t p : Nat} : dn o t p = false ↔ ∀ s, s < t → o s ≠ p := by
  rw [← Bool.not_eq_true, dn_iff]
  exact ⟨fun h s hs e => h ⟨s, hs, e⟩, fun h ⟨s, hs, e⟩ => h s hs e⟩
theorem dn_next (o : Nat → Nat) (t p : Nat) : dn o (t + 1) p = if p = o t then true else dn o t p := by
  by_cases e : p = o t
  · rw [if_pos e, dn_iff]; exact ⟨t, by omega, e.symm⟩
  · rw [if_neg e]
    cases h : dn o t p
    · rw [dn_no] at h ⊢
      intro s hs
      by_cases g : s = t
      · subst g; exact fun q => e q.symm
      · exact h s (by omega)
    · rw [dn_iff] at h ⊢
      obtain ⟨s, hs, q⟩ := h
      exact ⟨s, by omega, q⟩
/-- The best of the first j that were not served, or -1. -/
def Best (K : Nat → Wt) (o : Nat → Nat) (t j : Nat) (z : Int) : Prop := (z = -1 ∧ ∀ p, p < j → dn o t p = true) ∨ ∃ p, p < j ∧ z = (p : Int) ∧ dn o t p = false ∧ ∀ q, q < j → dn o t q = false → q = p ∨ Pu.lt K p q
theorem Best.none (K : Nat → Wt) (o : Nat → Nat) (t : Nat) : Best K o t 0 (-1) := .inl ⟨rfl, fun _ h => absurd h (by omega)⟩
theorem Best.pass {K : Nat → Wt} {o : Nat → Nat} {t j : Nat} {z : Int} (h : Best K o t j z) (hj : dn o t j = true) : Best K o t (j + 1) z := by
  rcases h with ⟨h, g⟩ | ⟨p, hp, e, h, g⟩
  · refine .inl ⟨h, fun p hp => ?_⟩
    by_cases q : p = j
    · rw [q]; exact hj
    · exact g p (by omega)
  · refine .inr ⟨p, by omega, e, h, fun q hq hd => ?_⟩
    by_cases r : q = j
    · rw [r, hj] at hd; cases hd
    · exact g q (by omega) hd
theorem Best.first {K : Nat → Wt} {o : Nat → Nat} {t j : Nat} (h : Best K o t j (-1)) (hj : dn o t j = false) : Best K o t (j + 1) (j : Int) := by
  rcases h with ⟨-, g⟩ | ⟨p, -, e, -⟩
  · refine .inr ⟨j, by omega, rfl, hj, fun q hq hd => ?_⟩
    by_cases r : q = j
    · exact .inl r
    · rw [g q (by omega)] at hd; cases hd
  · omega
theorem Best.take {K : Nat → Wt} {o : Nat → Nat} {t j p : Nat} (h : Best K o t j (p : Int)) (hj : dn o t j = false) (hl : Pu.lt K j p) : Best K o t (j + 1) (j : Int) := by
  rcases h with ⟨h, -⟩ | ⟨r, -, e, -, g⟩
  · omega
  · obtain rfl : p = r := by omega
    refine .inr ⟨j, by omega, rfl, hj, fun q hq hd => ?_⟩
    by_cases s : q = j
    · exact .inl s
    · rcases g q (by omega) hd with k | k
      · subst k; exact .inr hl
      · exact .inr (Pu.lt_trans hl k)
theorem Best.leave {K : Nat → Wt} {o : Nat → Nat} {t j p : Nat} (h : Best K o t j (p : Int)) (hl : ¬ Pu.lt K j p) : Best K o t (j + 1) (p : Int) := by
  rcases h with ⟨h, -⟩ | ⟨r, hr, e, hd, g⟩
  · omega
  · obtain rfl : p = r := by omega
    refine .inr ⟨p, by omega, rfl, hd, fun q hq hqd => ?_⟩
    by_cases s : q = j
    · rcases Pu.lt_total K (show p ≠ q by omega) with k | k
      · exact .inr k
      · rw [s] at k; exact absurd k hl
    · exact g q (by omega) hqd
/-- The best of all is the one whose turn it is. -/
theorem Best.all {K : Nat → Wt} {o : Nat → Nat} {t n : Nat} {z : Int} (h : Best K o t n z) (ho : Pu.Ord K n o) (ht : t < n) : z = (o t : Int) := by
  have hd : dn o t (o t) = false := dn_no.2 fun s hs e => by
    have := ho.inj (show s < n by omega) ht e
    omega
  rcases h with ⟨-, g⟩ | ⟨p, hp, e, hpd, g⟩
  · rw [g (o t) (ho.lt ht)] at hd; cases hd
  · rcases ho.least ht hp (dn_no.1 hpd) with k | k
    · rw [e, k]
    · rcases g (o t) (ho.lt ht) hd with r | r
      · rw [e, r]
      · exact absurd k (Pu.lt_not r)

/-- What the document's Split keeps. -/
structure RSt (w : World) (a : Option Addr) (G D n : Nat) (K : Nat → Wt) (g : Nat → Int) (d : Nat → Bool) (W : World) : Prop where
  k0 : WtsAt w a n K
  g : IRow W G n g
  d : BRow W D n d
  e : Below w.heap.size w W
  l : w.heap.size ≤ G ∧ w.heap.size ≤ D ∧ G ≠ D ∧ G < W.heap.size ∧ D < W.heap.size
theorem RSt.k {w : World} {a : Option Addr} {G D n : Nat} {K : Nat → Wt} {g : Nat → Int} {d : Nat → Bool} {W : World} (h : RSt w a G D n K g d W) : WtsAt W a n K := h.k0.grew h.e
theorem RSt.grew {w : World} {a : Option Addr} {G D n : Nat} {K : Nat → Wt} {g : Nat → Int} {d : Nat → Bool} {W W' : World} (h : RSt w a G D n K g d W) (q : Below W.heap.size W W') : RSt w a G D n K g d W' :=
  ⟨h.k0, h.g.block (q.block G h.l.2.2.2.1), h.d.block (q.block D h.l.2.2.2.2), h.e.trans (q.mono h.e.size), h.l.1, h.l.2.1, h.l.2.2.1, Nat.lt_of_lt_of_le h.l.2.2.2.1 q.size, Nat.lt_of_lt_of_le h.l.2.2.2.2 q.size⟩
theorem RSt.mark {w : World} {a : Option Addr} {G D n : Nat} {K : Nat → Wt} {g : Nat → Int} {d d' : Nat → Bool} {W : World} (h : RSt w a G D n K g d W) {i : Nat} (hi : i < n) (hd : ∀ j, j < n → d' j = if j = i then true else d j) : RSt w a G D n K g d' (W.setCell ⟨D, i, none⟩ (.bool true)) :=
  ⟨h.k0, h.g.other h.l.2.2.1, h.d.put hi hd, h.e.setCell (p := ⟨D, i, none⟩) h.l.2.1 _, h.l.1, h.l.2.1, h.l.2.2.1, by simpa [World.setCell] using h.l.2.2.2.1, by simpa [World.setCell] using h.l.2.2.2.2⟩
theorem RSt.give {w : World} {a : Option Addr} {G D n : Nat} {K : Nat → Wt} {g g' : Nat → Int} {d : Nat → Bool} {W : World} (h : RSt w a G D n K g d W) {i : Nat} {v : Int} (hi : i < n) (hg : ∀ j, j < n → g' j = if j = i then v else g j) : RSt w a G D n K g' d (W.setCell ⟨G, i, none⟩ (.int .i64 v)) :=
  ⟨h.k0, h.g.put hi hg, h.d.block (Below.heap_setCell W ⟨G, i, none⟩ _ D (fun q => h.l.2.2.1 q.symm)), h.e.setCell (p := ⟨G, i, none⟩) h.l.1 _, h.l.1, h.l.2.1, h.l.2.2.1, by simpa [World.setCell] using h.l.2.2.2.1, by simpa [World.setCell] using h.l.2.2.2.2⟩
end Go.Proofs.YtijjhjlopfbeiaaDoor

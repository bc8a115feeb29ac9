/-
  Law 14's two tables of Booleans.
-/
import Derived.Laws.Rows
import Derived.Laws.Tables
import Derived.Deep.WholeRow
import Derived.Test.YtclbcggbnbimaaaTpk
namespace Go.Proofs.Ytclbcggbnbimaaa
open Go.RowKit Go.Deep

theorem Try.infoGrid : (Try.prog.info? 36).map (fun i => (i.zero, i.size)) = some (some (.agg (Array.replicate 144 (.bool false))), 144) := by kernel_rfl
/-- One place is written. -/
def put2 (A : Nat → Nat → Bool) (i k : Nat) (v : Bool) : Nat → Nat → Bool := fun p q => if p = i ∧ q = k then v else A p q
theorem put2_same (A : Nat → Nat → Bool) (i k : Nat) (v : Bool) : put2 A i k v i k = v := if_pos ⟨rfl, rfl⟩
theorem put2_other {A : Nat → Nat → Bool} {i k p q : Nat} (v : Bool) (h : ¬ (p = i ∧ q = k)) : put2 A i k v p q = A p q := if_neg h
theorem put2_again (A : Nat → Nat → Bool) (i k : Nat) (v u : Bool) : put2 (put2 A i k v) i k u = put2 A i k u := by
  funext p q
  by_cases h : p = i ∧ q = k
  · obtain ⟨rfl, rfl⟩ := h
    rw [put2_same, put2_same]
  · rw [put2_other _ h, put2_other _ h, put2_other _ h]
theorem put2_none {A : Nat → Nat → Bool} {i k : Nat} (h : A i k = false) : put2 A i k false = A := by
  funext p q
  by_cases e : p = i ∧ q = k
  · obtain ⟨rfl, rfl⟩ := e
    rw [put2_same, h]
  · exact put2_other _ e
/-- Block B holds a table. -/
def Grd (w : World) (B : Nat) (A : Nat → Nat → Bool) : Prop := w.rowIs B 36 144 (fun i => .bool (A (i / 12) (i % 12)))
theorem Grd.cell {w : World} {B i k : Nat} {A : Nat → Nat → Bool} (h : Grd w B A) (hi : i < 12) (hk : k < 12) : w.cell? ⟨B, i * 12 + k, none⟩ = some (.bool (A i k)) := by
  have := World.rowIs.cell (i := i * 12 + k) h (by omega)
  simp only [show (i * 12 + k) / 12 = i by omega, show (i * 12 + k) % 12 = k by omega] at this
  exact this
theorem Grd.set {w : World} {B i k : Nat} {A : Nat → Nat → Bool} (h : Grd w B A) (hk : k < 12) (v : Bool) : Grd (w.setCell ⟨B, i * 12 + k, none⟩ (.bool v)) B (put2 A i k v) :=
  World.rowIs.congr (World.rowIs.set h (i * 12 + k) (.bool v)) fun q hq => by
    show (if q = i * 12 + k then Value.bool v else .bool (A (q / 12) (q % 12))) = .bool (put2 A i k v (q / 12) (q % 12))
    by_cases e : q = i * 12 + k
    · rw [if_pos e, show q / 12 = i by omega, show q % 12 = k by omega, put2_same]
    · rw [if_neg e, put2_other _ (fun g => e (by omega))]
theorem Grd.block {w w' : World} {B : Nat} {A : Nat → Nat → Bool} (h : Grd w B A) (e : w'.heap[B]? = w.heap[B]?) : Grd w' B A := World.rowIs.of_block h e
theorem Grd.lt {w : World} {B : Nat} {A : Nat → Nat → Bool} (h : Grd w B A) : B < w.heap.size := World.rowIs.lt h
/-- Known ones and two tables. -/
structure St (W0 W : World) (r : Option Addr) (m : Nat) (K : Nat → Fr) (R : Nat → Nat → Int) (A B : Nat → Nat → Bool) : Prop where
  bel : Below W0.heap.size W0 W
  cr : Crowd W0 r m K R
  ga : Grd W W0.heap.size A
  gb : Grd W (W0.heap.size + 1) B
theorem St.crowd {W0 W : World} {r : Option Addr} {m : Nat} {K : Nat → Fr} {R : Nat → Nat → Int} {A B : Nat → Nat → Bool} (h : St W0 W r m K R A B) : Crowd W r m K R := h.cr.grew h.bel
theorem St.grew {W0 W W' : World} {r : Option Addr} {m : Nat} {K : Nat → Fr} {R : Nat → Nat → Int} {A B : Nat → Nat → Bool} (h : St W0 W r m K R A B) (hb : Below W.heap.size W W') : St W0 W' r m K R A B :=
  ⟨h.bel.trans (hb.mono h.bel.size), h.cr, h.ga.block (hb.block _ h.ga.lt), h.gb.block (hb.block _ h.gb.lt)⟩
theorem St.setA {W0 W : World} {r : Option Addr} {m i k : Nat} {K : Nat → Fr} {R : Nat → Nat → Int} {A B : Nat → Nat → Bool} (h : St W0 W r m K R A B) (hk : k < 12) (v : Bool) : St W0 (W.setCell ⟨W0.heap.size, i * 12 + k, none⟩ (.bool v)) r m K R (put2 A i k v) B :=
  ⟨h.bel.setCell (p := ⟨W0.heap.size, i * 12 + k, none⟩) (Nat.le_refl _) _, h.cr, h.ga.set hk v, h.gb.block (Below.heap_setCell W ⟨W0.heap.size, i * 12 + k, none⟩ _ _ (Nat.succ_ne_self _))⟩
theorem St.setB {W0 W : World} {r : Option Addr} {m i k : Nat} {K : Nat → Fr} {R : Nat → Nat → Int} {A B : Nat → Nat → Bool} (h : St W0 W r m K R A B) (hk : k < 12) (v : Bool) : St W0 (W.setCell ⟨W0.heap.size + 1, i * 12 + k, none⟩ (.bool v)) r m K R A (put2 B i k v) :=
  ⟨h.bel.setCell (p := ⟨W0.heap.size + 1, i * 12 + k, none⟩) (Nat.le_succ _) _, h.cr, h.ga.block (Below.heap_setCell W ⟨W0.heap.size + 1, i * 12 + k, none⟩ _ _ (Nat.ne_of_lt (Nat.lt_succ_self _))), h.gb.set hk v⟩
/-- A list that was told, apart from the tables. -/
structure Ls (W0 W : World) (r : Option Addr) (L : Nat) (x : Nat → Int) : Prop where
  nums : NumsAt .u32 W r L x
  off : ∀ b o, r = some ⟨b, o, none⟩ → W0.heap.size + 1 < b
theorem Ls.grew {W0 W W' : World} {r : Option Addr} {L : Nat} {x : Nat → Int} (h : Ls W0 W r L x) (hb : Below W.heap.size W W') : Ls W0 W' r L x := ⟨h.nums.grew hb, h.off⟩
theorem Ls.set {W0 W : World} {r : Option Addr} {L B i : Nat} {x : Nat → Int} (h : Ls W0 W r L x) (hB : B ≤ W0.heap.size + 1) (v : Value) : Ls W0 (W.setCell ⟨B, i, none⟩ v) r L x :=
  ⟨fun h0 => by
    obtain ⟨b, o, e, hc⟩ := h.nums h0
    have := h.off b o e
    exact ⟨b, o, e, fun j hj => (World.cell?_setCell_other _ _ _ _ (fun e => by cases e; omega)).trans (hc j hj)⟩, h.off⟩
/-- The table tells P: the first t rows, and the first k of the next; the rest is blank. -/
structure Gr (A : Nat → Nat → Bool) (P : Nat → Nat → Prop) (m t k : Nat) : Prop where
  done : ∀ i, i < t → ∀ q, q < m → Tr (A i q) (P i q)
  row : ∀ q, q < k → Tr (A t q) (P t q)
  blank : ∀ q, k ≤ q → A t q = false
  later : ∀ i, t < i → ∀ q, A i q = false
theorem Gr.nil (P : Nat → Nat → Prop) (m : Nat) : Gr (fun _ _ => false) P m 0 0 :=
  ⟨fun i h => absurd h (Nat.not_lt_zero i), fun i h => absurd h (Nat.not_lt_zero i), fun _ _ => rfl, fun _ _ _ => rfl⟩
theorem Gr.put {A : Nat → Nat → Bool} {P : Nat → Nat → Prop} {m t k : Nat} {v : Bool} (h : Gr A P m t k) (hv : Tr v (P t k)) : Gr (put2 A t k v) P m t (k + 1) :=
  ⟨fun i hi q hq => by rw [put2_other _ (fun e => by omega)]; exact h.done i hi q hq, fun q hq => by
    by_cases e : q = k
    · subst e; rw [put2_same]; exact hv
    · rw [put2_other _ (fun g => e g.2)]; exact h.row q (by omega), fun q hq => by rw [put2_other _ (fun e => by omega)]; exact h.blank q (by omega), fun i hi q => by rw [put2_other _ (fun e => by omega)]; exact h.later i hi q⟩
theorem Gr.next {A : Nat → Nat → Bool} {P : Nat → Nat → Prop} {m t : Nat} (h : Gr A P m t m) : Gr A P m (t + 1) 0 :=
  ⟨fun i hi q hq => by
    by_cases e : i = t
    · subst e; exact h.row q hq
    · exact h.done i (by omega) q hq, fun q hq => absurd hq (Nat.not_lt_zero q), fun q _ => h.later _ (Nat.lt_succ_self _) q, fun i hi q => h.later i (by omega) q⟩
/-- Above, below. -/
def UpP (K : Nat → Fr) (R : Nat → Nat → Int) (m i k : Nat) : Prop := Up (Edge K R m) i k
def DnP (K : Nat → Fr) (R : Nat → Nat → Int) (m i k : Nat) : Prop := Up (Edge K R m) k i
theorem behind_dn {K : Nat → Fr} {R : Nat → Nat → Int} {m : Nat} (hr : Rise K m) (hh : Hung K R m) {t : Nat} (ht : t < m) (q : Nat) : Behind (fun p i => Edge K R m i p) K m (K t).id q ↔ DnP K R m t q := by
  constructor
  · rintro ⟨s, h1, h2, -⟩
    rw [plc_at hr ht] at h1
    cases h1
    exact h2.turn (F := Edge K R m) (fun _ _ h => h)
  · intro h
    refine ⟨t, plc_at hr ht, h.turn (F := fun p i => Edge K R m i p) (fun _ _ h => h), fun e => ?_⟩
    have := h.falls (edge_falls hr hh)
    omega
/-- A list that was told, of whom S holds. -/
structure Tls (K : Nat → Fr) (m : Nat) (S : Nat → Prop) (sel : Nat → Bool) (L : Nat) (x : Nat → Int) : Prop where
  who : ∀ q, q < m → (sel q = true ↔ S q)
  len : L = (picked sel m).length
  ids : ∀ j, j < L → x j = ((K ((picked sel m).getD j 0)).id : Int)
theorem St.told {W0 W : World} {r : Option Addr} {m : Nat} {K : Nat → Fr} {R : Nat → Nat → Int} {A B : Nat → Nat → Bool} {S : Nat → Prop} {e : Ending} {w' : World} (h : St W0 W r m K R A B) (ht : ToldIs W m K S e w') :
    Below W.heap.size W w' ∧ ∃ (r' : Option Addr) (L c : Nat) (x : Nat → Int) (sel : Nat → Bool), e = .returned (.slice r' L c) ∧ Ls W0 w' r' L x ∧ Tls K m S sel L x := by
  obtain ⟨h1, v, sel, rfl, hs, x, hu, hx⟩ := ht
  obtain ⟨r', c, rfl, -, ho, hn⟩ := hu.any
  refine ⟨h1, r', _, c, x, sel, rfl, ⟨hn, fun b o e => ?_⟩, ⟨hs, rfl, hx⟩⟩
  subst e
  have := (ho b rfl).1
  have := h.gb.lt
  omega
theorem Tls.has {K : Nat → Fr} {m k L : Nat} {S : Nat → Prop} {sel : Nat → Bool} {x : Nat → Int} (h : Tls K m S sel L x) (hr : Rise K m) (hk : k < m) : (∃ i, i < L ∧ x i = ((K k).id : Int)) ↔ S k := by
  have := told_has (x := (K k).id) h.who (fun j hj => h.ids j (by rw [h.len]; exact hj))
  rw [← h.len] at this
  rw [this]
  constructor
  · rintro ⟨p, h1, h2, h3⟩
    have : p = k := hr.eq h1 hk h2
    rw [this] at h3
    exact h3
  · exact fun g => ⟨k, hk, rfl, g⟩
theorem Tls.small {K : Nat → Fr} {m L : Nat} {S : Nat → Prop} {sel : Nat → Bool} {x : Nat → Int} (h : Tls K m S sel L x) : L ≤ m := by
  rw [h.len]
  exact picked_le _ _
theorem Tls.rise {K : Nat → Fr} {m L j : Nat} {S : Nat → Prop} {sel : Nat → Bool} {x : Nat → Int} (h : Tls K m S sel L x) (hr : Rise K m) (hj : j + 1 < L) : x j < x (j + 1) := by
  rw [h.ids j (by omega), h.ids (j + 1) hj]
  rw [h.len] at hj
  have := hr _ _ (picked_lt (show j < j + 1 by omega) hj) (picked_at hj).1
  omega
theorem tr_eq {b c : Bool} {S : Prop} (h : Tr b S) (g : c = true ↔ S) : b = c := by
  cases b <;> cases c
  · rfl
  · exact absurd (h.2 (g.1 rfl)) Bool.false_ne_true
  · exact absurd (g.2 (h.1 rfl)) Bool.false_ne_true
  · rfl
theorem tr_or {S T : Prop} {x y : Int} (h : Tr false S) (e : x = y ↔ T) : Tr (x == y) (S ∨ T) := Tr.dec (e.trans ⟨.inr, fun g => g.resolve_left (fun s => Bool.false_ne_true (h.2 s))⟩)
theorem found_step (x : Nat → Int) (y : Int) (u : Nat) : (∃ i, i < u + 1 ∧ x i = y) ↔ ((∃ i, i < u ∧ x i = y) ∨ x u = y) := by
  constructor
  · rintro ⟨i, h1, h2⟩
    by_cases e : i = u
    · rw [e] at h2; exact .inr h2
    · exact .inl ⟨i, by omega, h2⟩
  · rintro (⟨i, h1, h2⟩ | h)
    · exact ⟨i, by omega, h2⟩
    · exact ⟨u, Nat.lt_succ_self _, h⟩
theorem found_none (x : Nat → Int) (y : Int) : ¬ ∃ i, i < 0 ∧ x i = y := fun ⟨i, h, _⟩ => Nat.not_lt_zero i h
end Go.Proofs.Ytclbcggbnbimaaa

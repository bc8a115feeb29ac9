/-
  Rows of structs, told by lists: in memory, of the call's own. No program.
-/
import Derived.Test.YtaikkoijoolhkaaMem
namespace Go.Proofs.Ytaikkoijoolhkaa
open Go.RowKit Go.Deep

/-- How an element lies in memory: n cells. -/
structure Enc (α : Type) where
  cells : α → List Value
  n : Nat
  len : ∀ a, (cells a).length = n
  one : ∀ a, ∀ u ∈ cells a, u.oneCell' = true
  pos : 0 < n
section
variable {α : Type} (E : Enc α)
def Enc.rows (l : List α) : List Value := l.flatMap E.cells
theorem Enc.rows_len (l : List α) : (E.rows l).length = l.length * E.n := by
  induction l with
  | nil => simp [Enc.rows]
  | cons a l ih =>
    have : E.rows (a :: l) = E.cells a ++ E.rows l := rfl
    rw [this, List.length_append, ih, E.len, List.length_cons, Nat.add_mul]
    omega
theorem Enc.rows_append (l m : List α) : E.rows (l ++ m) = E.rows l ++ E.rows m := by simp [Enc.rows]
theorem Enc.rows_one (a : α) : E.rows [a] = E.cells a := by simp [Enc.rows]
theorem Enc.rows_take (l : List α) (i : Nat) : (E.rows l).take (i * E.n) = E.rows (l.take i) := by
  by_cases h : i ≤ l.length
  · have e : E.rows l = E.rows (l.take i) ++ E.rows (l.drop i) := by rw [← E.rows_append, List.take_append_drop]
    rw [e, List.take_append_of_le_length (by rw [E.rows_len, List.length_take, Nat.min_eq_left h]; exact Nat.le_refl _), List.take_of_length_le]
    rw [E.rows_len, List.length_take, Nat.min_eq_left h]
    exact Nat.le_refl _
  · have h : l.length ≤ i := by omega
    rw [List.take_of_length_le h, List.take_of_length_le]
    rw [E.rows_len]
    exact Nat.mul_le_mul_right _ h
theorem Enc.rows_drop (l : List α) (i : Nat) : (E.rows l).drop (i * E.n) = E.rows (l.drop i) := by
  by_cases h : i ≤ l.length
  · have e : E.rows l = E.rows (l.take i) ++ E.rows (l.drop i) := by rw [← E.rows_append, List.take_append_drop]
    have q : (E.rows (l.take i)).length = i * E.n := by rw [E.rows_len, List.length_take, Nat.min_eq_left h]
    rw [e, ← q, List.drop_left]
  · have h : l.length ≤ i := by omega
    rw [List.drop_of_length_le h, List.drop_of_length_le]
    · rfl
    rw [E.rows_len]
    exact Nat.mul_le_mul_right _ h
theorem Enc.rows_get (l : List α) (i j : Nat) (h : i < l.length) (hj : j < E.n) : (E.rows l)[i * E.n + j]? = (E.cells l[i])[j]? := by
  have e : (E.rows l)[i * E.n + j]? = ((E.rows l).drop (i * E.n))[j]? := by rw [List.getElem?_drop]
  rw [e, E.rows_drop, List.drop_eq_getElem_cons h]
  have : E.rows (l[i] :: l.drop (i + 1)) = E.cells l[i] ++ E.rows (l.drop (i + 1)) := rfl
  rw [this, List.getElem?_append_left (by rw [E.len]; exact hj)]

/-- The address leads to the elements l. -/
def LsAt (w : World) (r : Option Addr) (l : List α) : Prop :=
  0 < l.length → ∃ b o, r = some ⟨b, o, none⟩ ∧ ∀ i (h : i < l.length) j u, (E.cells l[i])[j]? = some u → w.cell? ⟨b, o + (i * E.n + j), none⟩ = some u
/-- A row of the call's own. -/
def Lr (T : TypeId) (w : World) (base : Nat) (v : Value) (l : List α) : Prop := w.ownsRow base T E.n v l.length (E.rows l)
variable {E} {T : TypeId} {w w' : World} {base : Nat} {v : Value} {l : List α}
theorem LsAt.nil (w : World) (r : Option Addr) : LsAt E w r [] := fun h => absurd h (by simp)
theorem LsAt.addr {r : Option Addr} (h : LsAt E w r l) (h0 : 0 < l.length) : ∃ b o, r = some ⟨b, o, none⟩ := by
  obtain ⟨b, o, e, -⟩ := h h0
  exact ⟨b, o, e⟩
theorem LsAt.at {b o : Nat} (h : LsAt E w (some ⟨b, o, none⟩) l) (i : Nat) (hi : i < l.length) (j : Nat) (u : Value) (hu : (E.cells l[i])[j]? = some u) : w.cell? ⟨b, o + (i * E.n + j), none⟩ = some u := by
  obtain ⟨b', o', e, hc⟩ := h (by omega)
  cases e
  exact hc i hi j u hu
theorem LsAt.block {r : Option Addr} (h : LsAt E w r l) (hb : ∀ b o, r = some ⟨b, o, none⟩ → b < w.heap.size → w'.heap[b]? = w.heap[b]?) : LsAt E w' r l := fun h0 => by
  obtain ⟨b, o, e, hc⟩ := h h0
  have hn : 0 < (E.cells l[0]).length := by rw [E.len]; exact E.pos
  have hl := hb b o e (cell_lt (hc 0 h0 0 _ (List.getElem?_eq_getElem hn)))
  exact ⟨b, o, e, fun i hi j u hu => (World.cell?_of_block (a := ⟨b, o + (i * E.n + j), none⟩) hl).trans (hc i hi j u hu)⟩
theorem LsAt.grew {r : Option Addr} (h : LsAt E w r l) (hb : Below w.heap.size w w') : LsAt E w' r l := h.block fun b _ _ hl => hb.block b hl
theorem LsAt.below {r : Option Addr} {B : Nat} (h : LsAt E w r l) (hb : Below B w w') (hB : w.heap.size ≤ B) : LsAt E w' r l := h.block fun b _ _ hl => hb.block b (Nat.lt_of_lt_of_le hl hB)
theorem Lr.nil (w : World) (base : Nat) : Lr E T w base (.slice none 0 0) [] := ⟨E.rows_len [], .inl ⟨rfl, rfl⟩⟩
theorem Lr.lt (h : Lr E T w base v l) : ∀ g, v.ownBlock = some g → base ≤ g ∧ g < w.heap.size := fun g e => World.ownsRow.lt h g e
theorem Lr.empty (T' : TypeId) (hb : base ≤ w.heap.size) : Lr E T' (w.alloc (.cells #[] T')) base (.slice (some ⟨w.heap.size, 0, none⟩) 0 0) [] :=
  World.ownsRow_made w #[] 0 hb (Nat.zero_le _) (by simp)
/-- What it is. -/
theorem Lr.any (h : Lr E T w base v l) : ∃ r cap, v = .slice r l.length cap ∧ LsAt E w r l ∧ l.length ≤ cap ∧ (r = none → l = []) ∧ (∀ a, r = some a → ∃ g, r = some ⟨g, 0, none⟩ ∧ base ≤ g ∧ g < w.heap.size ∧ ∀ i, w.frozen? ⟨g, i, none⟩ = false) := by
  have hl := h.lt
  rcases h.2 with ⟨rfl, e⟩ | ⟨g, cap, cur, rfl, hb, hh, hle, hm, hs, ht⟩
  · have : l = [] := List.length_eq_zero_iff.1 e
    subst this
    exact ⟨none, 0, rfl, LsAt.nil _ _, Nat.le_refl _, fun _ => rfl, fun a e => by cases e⟩
  · refine ⟨_, cap, rfl, fun _ => ⟨g, 0, rfl, fun i hi j u hu => ?_⟩, hle, (fun e => by cases e), fun a _ => ⟨g, rfl, (hl g rfl).1, (hl g rfl).2, fun i => by simp [World.frozen?, hh]⟩⟩
    have hj : j < E.n := by
      have := (List.getElem?_eq_some_iff.1 hu).1
      rwa [E.len] at this
    have hlt : i * E.n + j < l.length * E.n := by
      have : (i + 1) * E.n ≤ l.length * E.n := Nat.mul_le_mul_right _ hi
      rw [Nat.add_mul] at this
      omega
    have e : cur.toList[i * E.n + j]? = some u := by
      rw [← hu, ← E.rows_get l i j hi hj, ← ht, List.getElem?_take_of_lt hlt]
    simp [World.cell?, hh]
    simpa using e
theorem Lr.base_le {base' : Nat} (h : Lr E T w base v l) (hb : base' ≤ base) : Lr E T w base' v l := by
  obtain ⟨h1, h2⟩ := h
  refine ⟨h1, ?_⟩
  rcases h2 with h2 | ⟨g, cap, cur, e, hg, h3⟩
  · exact .inl h2
  · exact .inr ⟨g, cap, cur, e, Nat.le_trans hb hg, h3⟩
theorem Lr.block (h : Lr E T w base v l) (hb : ∀ g, v.ownBlock = some g → w'.heap[g]? = w.heap[g]?) : Lr E T w' base v l := by
  obtain ⟨h1, h2⟩ := h
  refine ⟨h1, ?_⟩
  rcases h2 with h2 | ⟨g, cap, cur, rfl, hg, hh, h3⟩
  · exact .inl h2
  · exact .inr ⟨g, cap, cur, rfl, hg, (hb g rfl).trans hh, h3⟩
theorem Lr.grew (h : Lr E T w base v l) (hb : Below w.heap.size w w') : Lr E T w' base v l := h.block fun g e => hb.block g (h.lt g e).2
/-- Of a row its first ones. -/
theorem Lr.cut {g m cap : Nat} {l : List α} (h : Lr E T w base (.slice (some ⟨g, 0, none⟩) m cap) l) (s : Nat) (hs : s ≤ l.length) : Lr E T w base (.slice (some ⟨g, 0, none⟩) s cap) (l.take s) := by
  have hlen : (l.take s).length = s := by rw [List.length_take, Nat.min_eq_left hs]
  refine ⟨E.rows_len _, ?_⟩
  rcases h.2 with ⟨e, -⟩ | ⟨g', cap', cur, e, hb, hh, hle, hm, hsz, ht⟩
  · cases e
  · cases e
    refine .inr ⟨g, cap, cur, by rw [hlen], hb, hh, by omega, hm, hsz, ?_⟩
    rw [hlen, ← E.rows_take, ← ht, List.take_take, Nat.min_eq_left (Nat.mul_le_mul_right _ hs)]
/-- An element lies at q. -/
def ElAt (E : Enc α) (w : World) (q : Nat) (a : α) : Prop := ∀ j u, (E.cells a)[j]? = some u → w.cell? ⟨q, j, none⟩ = some u
theorem ElAt.made (w : World) (T : TypeId) (a : α) (cs : Array Value) (h : cs.toList = E.cells a) : ElAt E (w.alloc (.cells cs T)) w.heap.size a := fun j u hu => by
  rw [World.cell?_alloc_at _ _ _ _ rfl]
  rw [← h, Array.getElem?_toList] at hu
  exact hu
theorem ElAt.lt {q : Nat} {a : α} (h : ElAt E w q a) : q < w.heap.size := by
  have hn : 0 < (E.cells a).length := by rw [E.len]; exact E.pos
  exact cell_lt (h 0 _ (List.getElem?_eq_getElem hn))
theorem ElAt.block {q : Nat} {a : α} (h : ElAt E w q a) (hb : w'.heap[q]? = w.heap[q]?) : ElAt E w' q a := fun j u hu => (World.cell?_of_block (a := ⟨q, j, none⟩) hb).trans (h j u hu)
theorem ElAt.grew {q : Nat} {a : α} (h : ElAt E w q a) (hb : Below w.heap.size w w') : ElAt E w' q a := h.block (hb.block q h.lt)
/-- One more. -/
theorem Lr.push {P : Program} {t : TypeId} {i : TypeInfo} {z : Value} {bytes q : Nat} {a : α} (ty : TypeId) (ht : P.underlying t = some (.slice T)) (hi : P.info? T = some i) (hz : i.zero = some z) (hsz : i.size = E.n) (hby : i.bytes = bytes) (hzs : z.cells.size = E.n)
    (h : Lr E T w base v l) (ha : ElAt E w q a) (hm : l.length ≤ 100000) (hb : bytes ≤ 1000) (hbase : base ≤ w.heap.size) :
    ∃ v' W', (Builtin.append_ #[t, t] ty #[v, .slice (some ⟨q, 0, none⟩) 1 1]).run P w = .ok v' W' ∧ Lr E T W' base v' (l ++ [a]) ∧ w.grownBy W' v.ownBlock ∧ (v'.ownBlock = v.ownBlock ∨ v'.ownBlock = some w.heap.size) := by
  have hh : (l.length + 1) * bytes ≤ 140737488355328 := by
    have : (l.length + 1) * bytes ≤ 100001 * 1000 := Nat.mul_le_mul (by omega) hb
    omega
  obtain ⟨v', W', hr, hown, hgr, -, hwh⟩ := run_append_own_at (P := P) w base t ty T i z E.n bytes ht hi hz hsz hby hzs E.pos v l.length (E.rows l) h ⟨q, 0, none⟩ 1 1 (E.cells a) (by rw [E.len]; omega)
    (fun j u hj => by rw [Addr.add_mid, Nat.zero_add]; exact ha j u hj) (E.one a) (by unfold maxLen; omega) hh hbase
  refine ⟨v', W', hr, ?_, hgr, hwh⟩
  show W'.ownsRow _ _ _ _ _ _
  rw [E.rows_append, E.rows_one, List.length_append]
  exact hown
/-- All of another row. -/
theorem Lr.pushAll {P : Program} {t : TypeId} {i : TypeInfo} {z : Value} {bytes b c : Nat} {m : List α} (ty : TypeId) (ht : P.underlying t = some (.slice T)) (hi : P.info? T = some i) (hz : i.zero = some z) (hsz : i.size = E.n) (hby : i.bytes = bytes) (hzs : z.cells.size = E.n)
    (h : Lr E T w base v l) (ha : LsAt E w (some ⟨b, 0, none⟩) m) (hm : l.length + m.length ≤ 100000) (hb : bytes ≤ 1000) (hbase : base ≤ w.heap.size) :
    ∃ v' W', (Builtin.append_ #[t, t] ty #[v, .slice (some ⟨b, 0, none⟩) m.length c]).run P w = .ok v' W' ∧ Lr E T W' base v' (l ++ m) ∧ w.grownBy W' v.ownBlock ∧ (v'.ownBlock = v.ownBlock ∨ v'.ownBlock = some w.heap.size) := by
  have hh : (l.length + m.length) * bytes ≤ 140737488355328 := by
    have : (l.length + m.length) * bytes ≤ 100000 * 1000 := Nat.mul_le_mul hm hb
    omega
  obtain ⟨v', W', hr, hown, hgr, -, hwh⟩ := run_append_own_at (P := P) w base t ty T i z E.n bytes ht hi hz hsz hby hzs E.pos v l.length (E.rows l) h ⟨b, 0, none⟩ m.length c (E.rows m) (E.rows_len m)
    (fun j u hj => by
      have hj' := (List.getElem?_eq_some_iff.1 hj).1
      rw [E.rows_len] at hj'
      have hp := E.pos
      have h1 : j / E.n < m.length := (Nat.div_lt_iff_lt_mul hp).2 hj'
      have h2 : j % E.n < E.n := Nat.mod_lt _ hp
      have h3 : j / E.n * E.n + j % E.n = j := Nat.div_add_mod' _ _
      have := E.rows_get m (j / E.n) (j % E.n) h1 h2
      rw [h3, hj] at this
      have := ha.at (j / E.n) h1 (j % E.n) u this.symm
      rw [h3] at this
      rw [Addr.add_mid]
      exact this) (fun u hu => by
      obtain ⟨a, -, ha⟩ := List.mem_flatMap.1 hu
      exact E.one a u ha) (by unfold maxLen; omega) hh hbase
  refine ⟨v', W', hr, ?_, hgr, hwh⟩
  show W'.ownsRow _ _ _ _ _ _
  rw [E.rows_append, List.length_append]
  exact hown
/-- One more, where one was that is not wanted: the row is written in place. -/
theorem Lr.put {P : Program} {t : TypeId} {i : TypeInfo} {g m cap s q : Nat} {a : α} (ty : TypeId) (ht : P.underlying t = some (.slice T)) (hi : P.info? T = some i) (hsz : i.size = E.n)
    (h : Lr E T w base (.slice (some ⟨g, 0, none⟩) m cap) l) (ha : ElAt E w q a) (hs : s < l.length) :
    ∃ W', (Builtin.append_ #[t, t] ty #[.slice (some ⟨g, 0, none⟩) s cap, .slice (some ⟨q, 0, none⟩) 1 1]).run P w = .ok (.slice (some ⟨g, 0, none⟩) (s + 1) cap) W' ∧ Lr E T W' base (.slice (some ⟨g, 0, none⟩) m cap) (l.set s a) ∧ Kept g w W' := by
  rcases h.2 with ⟨e, -⟩ | ⟨g', cap', cur, e, hb, hh, hle, hm, hcs, ht'⟩
  · cases e
  · cases e
    have h1 : (s + 1) * E.n ≤ l.length * E.n := Nat.mul_le_mul_right _ hs
    have h2 : l.length * E.n ≤ cap * E.n := Nat.mul_le_mul_right _ hle
    rw [Nat.add_mul] at h1
    have hrun := run_append_room (P := P) w t ty T i ht hi g s cap cur hh ⟨q, 0, none⟩ 1 1 (E.cells a) (by rw [E.len, hsz]; omega)
      (fun j u hj => by rw [Addr.add_mid, Nat.zero_add]; exact ha j u hj) (E.one a) (by omega) (by rw [E.len, hsz]; omega)
    refine ⟨_, hrun, ⟨E.rows_len _, .inr ⟨g, cap, _, by rw [List.length_set], hb, setRow_heap w g cur _ T _ hh, by rw [List.length_set]; exact hle, hm, ?_, ?_⟩⟩, ⟨rfl, rfl, rfl, by simp, fun k _ hk => setRow_other w g k _ hk⟩⟩
    · simp [E.len, hsz]
      omega
    · rw [List.length_set, hsz, E.len]
      have hcl : l.length * E.n ≤ cur.toList.length := by have : cur.toList.length = cur.size := Array.length_toList; omega
      have e1 : cur.toList.take (s * E.n) = E.rows (l.take s) := by
        rw [← E.rows_take, ← ht', List.take_take, Nat.min_eq_left (by omega)]
      have e2 : (cur.toList.drop (s * E.n + E.n)).take (l.length * E.n - (s * E.n + E.n)) = E.rows (l.drop (s + 1)) := by
        rw [← E.rows_drop, ← ht', List.drop_take, Nat.add_mul, Nat.one_mul]
      have hl1 : (E.rows (l.take s) ++ E.cells a).length = s * E.n + E.n := by rw [List.length_append, E.rows_len, E.len, List.length_take, Nat.min_eq_left (Nat.le_of_lt hs)]
      show (cur.toList.take (s * E.n) ++ E.cells a ++ cur.toList.drop (s * E.n + E.n)).take (l.length * E.n) = _
      rw [e1, List.take_append, hl1, e2, List.take_of_length_le (by omega), List.set_eq_take_append_cons_drop, if_pos hs]
      have : E.rows (l.take s ++ a :: l.drop (s + 1)) = E.rows (l.take s) ++ (E.cells a ++ E.rows (l.drop (s + 1))) := by rw [E.rows_append]; rfl
      rw [this, List.append_assoc]
/-- One cell is written. -/
theorem Lr.set {g m cap s j k : Nat} {a : α} {u : Value} (h : Lr E T w base (.slice (some ⟨g, 0, none⟩) m cap) l) (hs : s < l.length) (hj : j < E.n) (hk : k = s * E.n + j) (ha : E.cells a = (E.cells l[s]).set j u) :
    Lr E T (w.setCell ⟨g, k, none⟩ u) base (.slice (some ⟨g, 0, none⟩) m cap) (l.set s a) := by
  subst hk
  rcases h.2 with ⟨e, -⟩ | ⟨g', cap', cur, e, hb, hh, hle, hm, hcs, ht'⟩
  · cases e
  · cases e
    refine ⟨E.rows_len _, .inr ⟨g, cap, cur.setIfInBounds (s * E.n + j) u, by rw [List.length_set], hb, ?_, by rw [List.length_set]; exact hle, hm, by simpa using hcs, ?_⟩⟩
    · rw [setCell_eq_setRow w g _ cur T (0, 0) u hh, setRow_heap w g cur _ T _ hh]
    · have e0 : l.set s a = l.take s ++ a :: l.drop (s + 1) := by rw [List.set_eq_take_append_cons_drop, if_pos hs]
      rw [List.length_set, Array.toList_setIfInBounds, List.take_set, ht', e0]
      have e1 : l = l.take s ++ l[s] :: l.drop (s + 1) := by rw [← List.drop_eq_getElem_cons hs, List.take_append_drop]
      have hl1 : (E.rows (l.take s)).length = s * E.n := by rw [E.rows_len, List.length_take, Nat.min_eq_left (Nat.le_of_lt hs)]
      have e2 : E.rows l = E.rows (l.take s) ++ (E.cells l[s] ++ E.rows (l.drop (s + 1))) := by
        conv => lhs; rw [e1]
        rw [E.rows_append]
        rfl
      have e3 : E.rows (l.take s ++ a :: l.drop (s + 1)) = E.rows (l.take s) ++ (E.cells a ++ E.rows (l.drop (s + 1))) := by rw [E.rows_append]; rfl
      rw [e2, e3, List.set_append_right _ _ (by rw [hl1]; omega), hl1, Nat.add_sub_cancel_left, List.set_append_left _ _ (by rw [E.len]; exact hj), ha]
end
end Go.Proofs.Ytaikkoijoolhkaa

/-
  Package pace: part: those that go, whoever they are; the others stay, in the same row.
-/
import Derived.Test.YtaikkoijoolhkaaPc1
namespace Go.Proofs.Ytaikkoijoolhkaa
open Go.RowKit Go.Deep

/-- Those that go, those that stay, and what is left, one behind the other. -/
def pst (t : Int → It → Bool × Int) (x : List It × List It × Int) (a : It) : List It × List It × Int :=
  if (t x.2.2 a).1 = true then (x.1 ++ [a], x.2.1, (t x.2.2 a).2) else (x.1, x.2.1 ++ [a], (t x.2.2 a).2)
def prt (t : Int → It → Bool × Int) (n : Int) (l : List It) : List It × List It × Int := l.foldl (pst t) ([], [], n)
theorem prt_snoc (t : Int → It → Bool × Int) (n : Int) (l : List It) (a : It) : prt t n (l ++ [a]) = pst t (prt t n l) a := by simp [prt, List.foldl_append]
theorem prt_len (t : Int → It → Bool × Int) (n : Int) : ∀ l : List It, (prt t n l).1.length + (prt t n l).2.1.length = l.length := by
  have key : ∀ (l : List It) (x : List It × List It × Int), (l.foldl (pst t) x).1.length + (l.foldl (pst t) x).2.1.length = x.1.length + x.2.1.length + l.length := by
    intro l
    induction l with
    | nil => intro x; simp
    | cons a l ih =>
      intro x
      rw [List.foldl_cons, ih]
      unfold pst
      split <;> simp <;> omega
  intro l
  have := key l ([], [], n)
  simpa [prt] using this
theorem take_next {l : List It} {k : Nat} (h : k < l.length) : l.take (k + 1) = l.take k ++ [l[k]] := by rw [List.take_add_one, List.getElem?_eq_getElem h]; rfl
set_option maxRecDepth 100000 in
theorem cut_items (a : Option Addr) (len cap : Nat) (w : World) : (Instr.slice 27 (.slice a len cap) none (some (.int .i64 0)) none).run Try.prog w = .ok (.slice a 0 cap) w := by
  have hz : ∀ x : Addr, x.add 0 = x := fun _ => rfl
  have e := run_slice_h (P := Try.prog) w 27 a len cap Try.underlying27 .i64 0 (by omega) (by omega)
  rw [e]
  simp [sliced, hz]
  have hs : (sizeOf (Try.prog.elem 27)).run Try.prog w = .ok 5 w := by kernel_rfl
  rw [hs]
  rfl

/-- In the middle of it: k have been asked. -/
structure Mid (X : List Nat) (t : Int → It → Bool × Int) (n0 : Int) (w : World) (base B : Nat) (r : Option Addr) (cap : Nat) (l : List It) (k : Nat) (vg : Value) (s : Nat) (L : List It) (wr : World) : Prop where
  row : Ir wr base (.slice r l.length cap) L
  len : L.length = l.length
  drop : L.drop k = l.drop k
  stay : (prt t n0 (l.take k)).2.1 = L.take s
  sk : s ≤ k
  gone : Ir wr w.heap.size vg (prt t n0 (l.take k)).1
  but : But (X ++ (Value.slice r l.length cap).ownBlock.toList) w wr
  sep : ∀ q, q ∈ X → q < w.heap.size ∧ q ≠ B ∧ (Value.slice r l.length cap).ownBlock ≠ some q
  q0 : w.cell? ⟨B, 0, none⟩ = some (.slice r l.length cap)
  th : w.frozen? ⟨B, 0, none⟩ = false
  ne : (Value.slice r l.length cap).ownBlock ≠ some B
  own : ∀ g, (Value.slice r l.length cap).ownBlock = some g → g < w.heap.size
section
variable {X : List Nat} {t : Int → It → Bool × Int} {n0 : Int} {w wr w' : World} {base B : Nat} {r : Option Addr} {cap : Nat} {l : List It} {k : Nat} {vg : Value} {s : Nat} {L : List It}
theorem Mid.bq (h : Mid X t n0 w base B r cap l k vg s L wr) : B < w.heap.size ∧ B ∉ X ++ (Value.slice r l.length cap).ownBlock.toList := by
  refine ⟨cell_lt h.q0, fun e => ?_⟩
  rcases List.mem_append.1 e with e | e
  · exact (h.sep B e).2.1 rfl
  · cases hv : (Value.slice r l.length cap).ownBlock with
    | none => rw [hv] at e; simp at e
    | some g => rw [hv] at e; simp at e; subst e; exact h.ne hv
theorem Mid.c0 (h : Mid X t n0 w base B r cap l k vg s L wr) : wr.cell? ⟨B, 0, none⟩ = some (.slice r l.length cap) := (World.cell?_of_block (a := ⟨B, 0, none⟩) (h.but.block B h.bq.1 h.bq.2)).trans h.q0
theorem Mid.thaw (h : Mid X t n0 w base B r cap l k vg s L wr) : wr.frozen? ⟨B, 0, none⟩ = false := (World.frozen?_of_block (a := ⟨B, 0, none⟩) (h.but.block B h.bq.1 h.bq.2)).trans h.th
/-- Elsewhere something is done. -/
theorem Mid.but' (h : Mid X t n0 w base B r cap l k vg s L wr) (hb : But X wr w') : Mid X t n0 w base B r cap l k vg s L w' :=
  { h with
    row := Lr.block h.row (fun g e => hb.block g (Nat.lt_of_lt_of_le (h.own g e) h.but.size) (fun m => (h.sep g m).2.2 e))
    gone := Lr.block h.gone (fun g e => hb.block g (Lr.lt h.gone g e).2 (fun m => by have := (h.sep g m).1; have := (Lr.lt h.gone g e).1; omega))
    but := h.but.from hb (fun i hi _ => List.mem_append.2 (.inl hi)) }
theorem Mid.grew (h : Mid X t n0 w base B r cap l k vg s L wr) (hb : Below wr.heap.size wr w') : Mid X t n0 w base B r cap l k vg s L w' := h.but' (But.of_below hb)
theorem Mid.goes {v2 : Value} {w2 : World} {m : Int} {A : It} (h : Mid X t n0 w base B r cap l k vg s L wr) (hp : prt t n0 (l.take (k + 1)) = ((prt t n0 (l.take k)).1 ++ [A], (prt t n0 (l.take k)).2.1, m))
    (ho : Ir w2 w.heap.size v2 ((prt t n0 (l.take k)).1 ++ [A])) (hg : wr.grownBy w2 vg.ownBlock) : Mid X t n0 w base B r cap l (k + 1) v2 s L w2 :=
  { h with
    row := Lr.block h.row (fun g e => hg.block g (Nat.lt_of_lt_of_le (h.own g e) h.but.size) (fun m => by have := (Lr.lt h.gone g m.symm).1; have := h.own g e; omega))
    drop := by rw [← List.drop_drop, h.drop, List.drop_drop]
    stay := by rw [hp]; exact h.stay
    sk := by have := h.sk; omega
    gone := by rw [hp]; exact ho
    but := h.but.from (But.of_grown (X := vg.ownBlock.toList) hg (fun g e _ => by rw [e]; simp)) (fun i hi hl => by
      cases hv : vg.ownBlock with
      | none => rw [hv] at hi; simp at hi
      | some g =>
        rw [hv] at hi
        simp at hi
        have := (Lr.lt h.gone g hv).1
        omega) }
theorem Mid.stays {g : Nat} {w2 : World} {m : Int} {A : It} (hk : k < l.length) (h : Mid X t n0 w base B (some ⟨g, 0, none⟩) cap l k vg s L wr) (hp : prt t n0 (l.take (k + 1)) = ((prt t n0 (l.take k)).1, (prt t n0 (l.take k)).2.1 ++ [A], m))
    (ho : Ir w2 base (.slice (some ⟨g, 0, none⟩) l.length cap) (L.set s A)) (hg : Kept g wr w2) : Mid X t n0 w base B (some ⟨g, 0, none⟩) cap l (k + 1) vg (s + 1) (L.set s A) w2 := by
  have hs := h.sk
  have hl := h.len
  have hgl : g < w.heap.size := h.own g rfl
  exact { h with
    row := ho
    len := by rw [List.length_set]; exact hl
    drop := by
      rw [List.drop_set_of_lt (by omega), ← List.drop_drop, h.drop, List.drop_drop]
    stay := by
      rw [hp]
      show (prt t n0 (l.take k)).2.1 ++ [A] = _
      rw [h.stay, List.take_add_one, List.take_set_of_le (Nat.le_refl _)]
      simp [show s < L.length by omega]
    sk := by omega
    gone := by rw [hp]; exact Lr.block h.gone (fun i e => hg.block i (Lr.lt h.gone i e).2 (fun e2 => by have := (Lr.lt h.gone i e).1; omega))
    but := h.but.trans (But.of_kept hg (List.mem_append.2 (.inr (by simp [Value.ownBlock])))) }
/-- The one that is asked next. -/
theorem Mid.item (h : Mid X t n0 w base B r cap l k vg s L wr) (hk : k < l.length) : ∃ g, r = some ⟨g, 0, none⟩ ∧ ItAt wr g (k * 5) l[k] := by
  obtain ⟨r', cap', e, hls, -, -, hsome⟩ := Lr.any h.row
  have hl := h.len
  injection e with e1 _ e3
  subst e1
  subst e3
  obtain ⟨b, o, e⟩ := hls.addr (by omega)
  obtain ⟨g, e2, -⟩ := hsome _ e
  have hkL : k < L.length := by omega
  rw [e2] at hls
  have hit := ls_it hls k hkL
  have e3 : L[k] = l[k] := by
    have h1 := h.drop
    rw [List.drop_eq_getElem_cons hkL, List.drop_eq_getElem_cons hk] at h1
    exact (List.cons.inj h1).1
  rw [e3, Nat.zero_add] at hit
  exact ⟨g, e2, hit⟩
/-- All have been asked. -/
theorem Mid.done (h : Mid X t n0 w base B r cap l l.length vg s L wr) (hB : base ≤ B) :
    Ir (wr.setCell ⟨B, 0, none⟩ (.slice r s cap)) w.heap.size vg (prt t n0 l).1 ∧ ∃ v', QAt (wr.setCell ⟨B, 0, none⟩ (.slice r s cap)) base B v' (prt t n0 l).2.1 ∧ But (X ++ feet B (.slice r l.length cap)) w (wr.setCell ⟨B, 0, none⟩ (.slice r s cap)) ∧ ∀ g, v'.ownBlock = some g → (Value.slice r l.length cap).ownBlock = some g := by
  have hstay := h.stay
  have hgone := h.gone
  have hl := h.len
  have hs := h.sk
  rw [List.take_length] at hstay hgone
  have hother : ∀ g, g ≠ B → (wr.setCell ⟨B, 0, none⟩ (.slice r s cap)).heap[g]? = wr.heap[g]? := fun g hg => Below.heap_setCell wr ⟨B, 0, none⟩ _ g hg
  have hown : (Value.slice r s cap).ownBlock = (Value.slice r l.length cap).ownBlock := by cases r <;> rfl
  have hrow : Ir wr base (.slice r s cap) (L.take s) := by
    obtain ⟨r', cap', e, hls, hlc, hnone, hsome⟩ := Lr.any h.row
    injection e with e1 _ e3
    subst e1
    subst e3
    cases r with
    | none =>
      have := hnone rfl
      subst this
      have e0 : s = 0 := by simp at hl; omega
      subst e0
      have hn := h.row.2
      rcases hn with ⟨e1, -⟩ | ⟨g, c2, cur, e1, -⟩
      · injection e1 with _ _ e2
        subst e2
        exact Lr.nil _ _
      · cases e1
    | some a =>
      obtain ⟨g, e2, -⟩ := hsome a rfl
      cases e2
      exact Lr.cut h.row s (by omega)
  refine ⟨Lr.block hgone (fun g e => hother g (fun e2 => by have := (Lr.lt hgone g e).1; have := h.bq.1; omega)), .slice r s cap, ⟨World.cell?_setCell_same _ _ _ h.c0, by rw [World.frozen?_setCell]; exact h.thaw, ?_, by rw [hown]; exact h.ne, hB⟩, ?_, fun g e => by rw [← hown]; exact e⟩
  · rw [hstay]
    exact Lr.block hrow (fun g e => hother g (fun e2 => h.ne (by rw [← hown, e, e2])))
  · refine (h.but.mono (fun i hi _ => ?_)).trans (But.set _ B 0 _ (List.mem_append.2 (.inr (mem_feet.2 (.inl rfl)))))
    rcases List.mem_append.1 hi with hi | hi
    · exact List.mem_append.2 (.inl hi)
    · refine List.mem_append.2 (.inr (mem_feet.2 (.inr ?_)))
      cases hv : (Value.slice r l.length cap).ownBlock with
      | none => rw [hv] at hi; simp at hi
      | some g => rw [hv] at hi; simp at hi; rw [hi]
end
end Go.Proofs.Ytaikkoijoolhkaa

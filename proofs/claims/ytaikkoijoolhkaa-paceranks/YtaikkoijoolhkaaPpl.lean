/-
  Those that go and those that stay: plain.
-/
import Derived.Test.YtaikkoijoolhkaaPc4
namespace Go.Proofs.Ytaikkoijoolhkaa
open Go.RowKit Go.Deep

theorem prt_sub (t : Int → It → Bool × Int) (n : Int) (l : List It) : (prt t n l).1.Sublist l ∧ (prt t n l).2.1.Sublist l ∧ ((prt t n l).1 ++ (prt t n l).2.1).Perm l := by
  have key : ∀ (l p : List It) (x : List It × List It × Int), x.1.Sublist p → x.2.1.Sublist p → (x.1 ++ x.2.1).Perm p → (l.foldl (pst t) x).1.Sublist (p ++ l) ∧ (l.foldl (pst t) x).2.1.Sublist (p ++ l) ∧ ((l.foldl (pst t) x).1 ++ (l.foldl (pst t) x).2.1).Perm (p ++ l) := by
    intro l
    induction l with
    | nil => intro p x h1 h2 h3; simpa using ⟨h1, h2, h3⟩
    | cons a l ih =>
      intro p x h1 h2 h3
      rw [List.foldl_cons]
      have e : p ++ a :: l = (p ++ [a]) ++ l := by simp
      rw [e]
      apply ih
      · unfold pst
        split
        · exact h1.append (List.Sublist.refl _)
        · exact h1.trans (List.sublist_append_left _ _)
      · unfold pst
        split
        · exact h2.trans (List.sublist_append_left _ _)
        · exact h2.append (List.Sublist.refl _)
      · unfold pst
        split
        · show ((x.1 ++ [a]) ++ x.2.1).Perm _
          rw [List.append_assoc]
          refine List.Perm.trans ?_ (h3.append_right [a])
          rw [List.append_assoc]
          exact List.Perm.append_left _ List.perm_append_comm
        · show (x.1 ++ (x.2.1 ++ [a])).Perm _
          rw [← List.append_assoc]
          exact h3.append_right [a]
  have := key l [] ([], [], n) (List.Sublist.refl _) (List.Sublist.refl _) (List.Perm.refl _)
  simpa [prt] using this
/-- Who is late, and who is not. -/
theorem prt_pred (p : It → Bool) (n : Int) (l : List It) : prt (fun m a => (p a, m)) n l = (l.filter p, l.filter (fun a => !p a), n) := by
  have key : ∀ (l : List It) (x : List It × List It × Int), l.foldl (pst (fun m a => (p a, m))) x = (x.1 ++ l.filter p, x.2.1 ++ l.filter (fun a => !p a), x.2.2) := by
    intro l
    induction l with
    | nil => intro x; simp
    | cons a l ih =>
      intro x
      rw [List.foldl_cons, ih]
      unfold pst
      cases h : p a <;> simp [h]
  have := key l ([], [], n)
  simpa [prt] using this
theorem prt_late (c : Int) (l : List It) : prt (late c) 0 l = (l.filter (fun a => decide (a.d ≤ c)), l.filter (fun a => !decide (a.d ≤ c)), 0) := prt_pred _ _ _
theorem prt_whose (f : Nat) (l : List It) : prt (whose f) 0 l = (l.filter (fun a => decide (a.f = f)), l.filter (fun a => !decide (a.f = f)), 0) := prt_pred _ _ _
/-- The first k of a run of items. -/
def items (it : Nat → It) (k : Nat) : List It := (List.range k).map it
theorem items_len (it : Nat → It) (k : Nat) : (items it k).length = k := by simp [items]
theorem items_next (it : Nat → It) (k : Nat) : items it (k + 1) = items it k ++ [it k] := by simp [items, List.range_succ]
theorem items_ord (it : Nat → It) (hs : ∀ i, (it i).s = (i : Int)) (k : Nat) : (items it k).Pairwise fun a b => a.s < b.s := by
  unfold items
  rw [List.pairwise_map]
  refine List.Pairwise.imp ?_ List.pairwise_lt_range
  intro a b h
  rw [hs, hs]
  omega
theorem sub_ord {l m : List It} (h : l.Sublist m) (ho : m.Pairwise fun a b => a.s < b.s) : l.Pairwise fun a b => a.s < b.s := ho.sublist h
end Go.Proofs.Ytaikkoijoolhkaa

/-
  Package purse as plain mathematics: what a list of wants gets, reckoned along any order that fits. No program.
-/
import Derived.Test.YtijjhjlopfbeiaaDoorPu0
namespace Go.Proofs.YtijjhjlopfbeiaaDoor
namespace Pu
theorem serve_same {K : Nat → Wt} {n : Nat} {o c : Nat → Nat} (m : St → Nat → Int) (s : St) (h : ∀ t, t < n → o t = c t) : ∀ t, t ≤ n → serve K m o s t = serve K m c s t
  | 0, _ => rfl
  | t + 1, ht => by
    have e := serve_same (K := K) m s h t (by omega)
    show give _ _ _ = give _ _ _
    rw [e, h t (by omega)]
theorem gets_same {K : Nat → Wt} {n : Nat} {B : Int} {o c : Nat → Nat} (h : Ord K n o) (g : Ord K n c) : gets K n B o = gets K n B c := by
  unfold gets
  rw [serve_same rest _ (h.one g) n (Nat.le_refl n)]
theorem Ord.of {K : Nat → Wt} {n : Nat} {c : Nat → Nat} (h1 : ((List.range n).map c).Perm (List.range n)) (h2 : ∀ t, t < n → ∀ s, s < t → Pu.lt K (c s) (c t)) : Ord K n c := ⟨h1, fun s t hs ht => h2 t ht s hs⟩
/-- Wants out of a list. -/
def ofList (l : List Wt) (i : Nat) : Wt := l.getD i ⟨0, 0, 0⟩
end Pu
end Go.Proofs.YtijjhjlopfbeiaaDoor

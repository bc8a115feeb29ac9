/-
  Which wants items come to: plain. Told in one order only.
-/
import Derived.Test.YtaikkoijoolhkaaPcx
namespace Go.Proofs.Ytaikkoijoolhkaa
open Go.RowKit Go.Deep

/-- More bytes of that frame. -/
def bump (a : It) (x : Wn) : Wn := if x.i = a.f then { x with b := min (x.b + a.b) 65536 } else x
/-- Where that frame's want is. -/
def wplc (W : List Wn) (x : Nat) : Option Nat := W.findIdx? fun c => c.i == x
/-- One more item. -/
def wadd (W : List Wn) (a : It) : List Wn := match wplc W a.f with
  | some q => W.modify q (bump a)
  | none => W ++ [bump a ⟨a.f, a.r, 0⟩]
def wfold (l : List It) : List Wn := l.foldl wadd []
theorem wfold_snoc (l : List It) (a : It) : wfold (l ++ [a]) = wadd (wfold l) a := by simp [wfold, List.foldl_append]
theorem wplc_some {W : List Wn} {x q : Nat} (h : wplc W x = some q) : ∃ hq : q < W.length, W[q].i = x := by
  obtain ⟨hq, h1, -⟩ := List.findIdx?_eq_some_iff_getElem.1 h
  exact ⟨hq, by simpa using h1⟩
theorem wplc_none {W : List Wn} {x : Nat} (h : wplc W x = none) : ∀ c, c ∈ W → c.i ≠ x := by
  have := List.findIdx?_eq_none_iff.1 h
  intro c hc e
  have := this c hc
  simp [e] at this
theorem wplc_push {W : List Wn} {x : Nat} {c : Wn} (hx : c.i = x) (h : wplc W x = none) (y : Nat) : (if y = x then some W.length else wplc W y) = wplc (W ++ [c]) y := by
  unfold wplc at *
  rw [List.findIdx?_append]
  by_cases e : y = x
  · subst e
    rw [h]
    simp [hx]
  · have : (c.i == y) = false := by simp; omega
    simp [e, this]
/-- What all wants keep to: each frame once, 0 to 65536 bytes, the frames of items. -/
structure Wok (W : List Wn) : Prop where
  ids : (W.map (·.i)).Nodup
  bnd : ∀ c, c ∈ W → 0 ≤ c.b ∧ c.b ≤ 65536
theorem modify_ids (W : List Wn) (q : Nat) (a : It) : (W.modify q (bump a)).map (·.i) = W.map (·.i) := by
  refine List.ext_getElem? fun i => ?_
  simp only [List.getElem?_map, List.getElem?_modify]
  by_cases e : q = i
  · subst e
    cases h : W[q]? with
    | none => simp
    | some c => simp [bump]; split <;> rfl
  · simp [e]
theorem wplc_modify (W : List Wn) (q : Nat) (a : It) (y : Nat) : wplc (W.modify q (bump a)) y = wplc W y := by
  have h := modify_ids W q a
  have e : ∀ V : List Wn, wplc V y = (V.map (·.i)).findIdx? (· == y) := fun V => by
    unfold wplc
    rw [List.findIdx?_map]
    rfl
  rw [e, e, h]
theorem Wok.add {W : List Wn} {a : It} (h : Wok W) (ha : 0 ≤ a.b) : Wok (wadd W a) := by
  unfold wadd
  split
  · refine ⟨by rw [modify_ids]; exact h.ids, fun c hc => ?_⟩
    obtain ⟨i, hi, rfl⟩ := List.mem_iff_getElem.1 hc
    rw [List.length_modify] at hi
    have := h.bnd _ (List.getElem_mem hi)
    rw [List.getElem_modify]
    split
    · unfold bump
      split
      · constructor
        · show 0 ≤ min _ _; omega
        · show min _ _ ≤ _; omega
      · exact this
    · exact this
  · rename_i hn
    refine ⟨?_, fun c hc => ?_⟩
    · rw [List.map_append, List.nodup_append]
      refine ⟨h.ids, by simp, fun x hx y hy => ?_⟩
      obtain ⟨c, hc, rfl⟩ := List.mem_map.1 hx
      simp [bump] at hy
      subst hy
      exact wplc_none hn c hc
    · rcases List.mem_append.1 hc with hc | hc
      · exact h.bnd c hc
      · simp at hc
        subst hc
        simp [bump]
        omega
theorem Wok.fold {l : List It} (h : ∀ a, a ∈ l → 0 ≤ a.b) : Wok (wfold l) := by
  have key : ∀ (l : List It) (W : List Wn), (∀ a, a ∈ l → 0 ≤ a.b) → Wok W → Wok (l.foldl wadd W) := by
    intro l
    induction l with
    | nil => intro W _ hW; exact hW
    | cons a l ih =>
      intro W hl hW
      rw [List.foldl_cons]
      exact ih _ (fun b hb => hl b (by simp [hb])) (hW.add (hl a (by simp)))
  exact key l [] h ⟨by simp, by simp⟩
theorem wadd_len (W : List Wn) (a : It) : (wadd W a).length ≤ W.length + 1 := by
  unfold wadd
  split <;> simp
theorem wfold_len (l : List It) : (wfold l).length ≤ l.length := by
  have key : ∀ (l : List It) (W : List Wn), (l.foldl wadd W).length ≤ W.length + l.length := by
    intro l
    induction l with
    | nil => intro W; simp
    | cons a l ih =>
      intro W
      rw [List.foldl_cons]
      have := ih (wadd W a)
      have := wadd_len W a
      simp
      omega
  have := key l []
  simpa [wfold] using this
/-- There is one such order. -/
theorem Told.one {l s s' : List Wn} (h : Told l s) (h' : Told l s') (hn : (l.map (·.i)).Nodup) : s = s' := by
  have hp : s.Perm s' := h.perm.trans h'.perm.symm
  have hi : ∀ a, a ∈ s → ∀ b, b ∈ s → a.i = b.i → a = b := by
    intro a ha b hb e
    have ha := h.perm.mem_iff.1 ha
    have hb := h.perm.mem_iff.1 hb
    have hpw : l.Pairwise fun a b => a.i ≠ b.i := by
      rw [List.Nodup, List.pairwise_map] at hn
      exact hn
    obtain ⟨i, hi, rfl⟩ := List.mem_iff_getElem.1 ha
    obtain ⟨j, hj, rfl⟩ := List.mem_iff_getElem.1 hb
    rcases Nat.lt_trichotomy i j with g | g | g
    · exact absurd e (List.pairwise_iff_getElem.1 hpw i j hi hj g)
    · subst g; rfl
    · exact absurd e.symm (List.pairwise_iff_getElem.1 hpw j i hj hi g)
  refine List.Perm.eq_of_pairwise (le := fun a b => ¬ b.lt a) (fun a b ha hb h1 h2 => ?_) h.ord h'.ord hp
  refine hi a ha b (hp.mem_iff.2 hb) ?_
  unfold Wn.lt at h1 h2
  omega
end Go.Proofs.Ytaikkoijoolhkaa

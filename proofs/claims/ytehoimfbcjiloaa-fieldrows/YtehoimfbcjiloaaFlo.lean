/-
  A region that draws its order, in which one read may come ahead of, or behind, one call that makes memory, all that follows being quiet: both orders come to the same.
-/
import Derived.BigQuiet
import Derived.Deep.QuietTactic
import Derived.RegionTactic
namespace Go.Proofs.Ytehoimfbcjiloaa.Flo

open Go
section
variable {P : Program} {md : Region.Mode} {ops : Array Oper} {Q : Exit → Act → World → Prop}

/-- The worlds behind some draws. -/
def Drawn (w w' : World) : Prop := ∃ n, w' = w.drewN n

theorem set_comm (L : Array Bool) (i j : Nat) (h : i ≠ j) : (L.setIfInBounds i true).setIfInBounds j true = (L.setIfInBounds j true).setIfInBounds i true := by
  exact Array.setIfInBounds_comm true true h

theorem wpAny_float {L : Array Bool} {a : Act} {w : World} {i j k : Nat} {oi oj : Oper} {v : Value} {l : List Oper} {R : World → Value → Prop}
    (hi : ops[i]? = some oi) (hj : ops[j]? = some oj) (hij : i ≠ j) (hs : Region.noSelect ops = true)
    (hr : Region.ready md ops L = [i, j]) (hrA : Region.ready md ops (L.setIfInBounds i true) = [j])
    (hrB : (Region.ready md ops (L.setIfInBounds j true)).contains i = true) (hfB : Region.free md ops (L.setIfInBounds j true) i = true)
    (hl : ∀ n, l[n]? = ops[k + n]?) (hlex : Region.lexFrom md ops l.length k ((L.setIfInBounds j true).setIfInBounds i true) = true)
    (hwi : Region.wanted oi (yielded ops a.tmps) = true) (hyi : (execOp a.eval oi).run P w = .ok (.value v) w)
    (hd : ∀ u, (a.put oi.dst v).put oj.dst u = (a.put oj.dst u).put oi.dst v)
    (call : ∀ a', (a' = a ∨ a' = a.put oi.dst v) → ∀ K : Act → World → Prop, (∀ w' u, R w' u → K (a'.put oj.dst u) w') → if Region.wanted oj (yielded ops a'.tmps) = true then Oper.wp P oj a' w K Q else K (a'.put oj.dst undef) w)
    (hy2 : ∀ w' u, R w' u → YieldsIn P ops (Drawn w') oi v (a.put oj.dst u))
    (rest : ∀ w' u, R w' u → wpQuiet P ops (Drawn w') (fun a' => ∀ w'', Drawn w' w'' → Q .normal a' w'') l ((a.put oj.dst u).put oi.dst v)) :
    wpAny P md ops Q (l.length + 1 + 1) L a w := by
  have fin : ∀ w' u, R w' u → wpAnyQ P md ops (Drawn w') (fun a' => ∀ w'', Drawn w' w'' → Q .normal a' w'') l.length ((L.setIfInBounds j true).setIfInBounds i true) ((a.put oj.dst u).put oi.dst v) :=
    fun w' u h => wpAnyQ_lex hs l k _ _ hl hlex (rest w' u h)
  have down : ∀ (n : Nat) (L' : Array Bool) (a' : Act) (w' : World), wpAnyQ P md ops (Drawn w') (fun a' => ∀ w'', Drawn w' w'' → Q .normal a' w'') n L' a' → wpAny P md ops Q n L' a' w' :=
    fun n L' a' w' h => wpAny_of_quiet (C := Drawn w') (fun _ w'' hw h => h w'' hw) n L' a' w' ⟨0, rfl⟩ h
  refine wpAny_all hr (by simp) ?_
  intro m hm
  simp only [List.mem_cons, List.not_mem_nil, or_false] at hm
  rcases hm with e | e
  · rw [e]
    unfold wpOp
    simp only [hi, hwi, if_true]
    refine .inl ?_
    unfold Oper.wp
    rw [hyi]
    show wpAny P md ops Q (l.length + 1) _ (a.put oi.dst v) w
    refine wpAny_all hrA (by simp) ?_
    intro m hm
    simp only [List.mem_cons, List.not_mem_nil, or_false] at hm
    rw [hm]
    have c := call (a.put oi.dst v) (.inr rfl) (wpAny P md ops Q l.length ((L.setIfInBounds j true).setIfInBounds i true)) (fun w' u h => by rw [hd u]; exact down _ _ _ _ (fin w' u h))
    unfold wpOp
    simp only [hj]
    rw [set_comm L _ _ hij]
    split
    · rename_i hw; rw [if_pos hw] at c; exact .inl c
    · rename_i hw; rw [if_neg hw] at c; exact c
  · rw [e]
    have c := call a (.inl rfl) (wpAny P md ops Q (l.length + 1) (L.setIfInBounds j true)) (fun w' u h => down _ _ _ _
      (wpAnyQ_first hi (Region.noSelect_spec hs) l.length _ _ (Region.free_spec hi hfB) (by simpa using hrB) (hy2 w' u h) (fin w' u h)))
    unfold wpOp
    simp only [hj]
    split
    · rename_i hw; rw [if_pos hw] at c; exact .inl c
    · rename_i hw; rw [if_neg hw] at c; exact c

theorem drop_get (k n : Nat) : (ops.toList.drop k)[n]? = ops[k + n]? := by
  rw [List.getElem?_drop, Array.getElem?_toList]

/-- The same, what follows being the region's operations from the k-th on. -/
theorem wpAny_float_at {fuel : Nat} {L : Array Bool} {a : Act} {w : World} (i j k : Nat) {oi oj : Oper} (v : Value) (R : World → Value → Prop)
    (hi : ops[i]? = some oi) (hj : ops[j]? = some oj) (hij : i ≠ j) (hs : Region.noSelect ops = true)
    (hf : fuel = (ops.toList.drop k).length + 1 + 1)
    (hr : Region.ready md ops L = [i, j]) (hrA : Region.ready md ops (L.setIfInBounds i true) = [j])
    (hrB : (Region.ready md ops (L.setIfInBounds j true)).contains i = true) (hfB : Region.free md ops (L.setIfInBounds j true) i = true)
    (hlex : Region.lexFrom md ops (ops.toList.drop k).length k ((L.setIfInBounds j true).setIfInBounds i true) = true)
    (hwi : Region.wanted oi (yielded ops a.tmps) = true) (hyi : (execOp a.eval oi).run P w = .ok (.value v) w)
    (hd : ∀ d, oi.dst = some d → oj.dst ≠ some d)
    (call : ∀ a', (a' = a ∨ a' = a.put oi.dst v) → ∀ K : Act → World → Prop, (∀ w' u, R w' u → K (a'.put oj.dst u) w') → if Region.wanted oj (yielded ops a'.tmps) = true then Oper.wp P oj a' w K Q else K (a'.put oj.dst undef) w)
    (hy2 : ∀ w' u, R w' u → YieldsIn P ops (Drawn w') oi v (a.put oj.dst u))
    (rest : ∀ w' u, R w' u → wpQuiet P ops (Drawn w') (fun a' => ∀ w'', Drawn w' w'' → Q .normal a' w'') (ops.toList.drop k) ((a.put oj.dst u).put oi.dst v)) :
    wpAny P md ops Q fuel L a w := by
  subst hf
  exact wpAny_float hi hj hij hs hr hrA hrB hfB (drop_get k) hlex hwi hyi (fun u => Act.put_comm a v u hd) call hy2 rest
end
end Go.Proofs.Ytehoimfbcjiloaa.Flo

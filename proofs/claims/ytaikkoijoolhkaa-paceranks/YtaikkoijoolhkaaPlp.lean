/-
  A Queue of the call's own beside other blocks of it; a row of ints of the call's own.
-/
import Derived.Test.YtaikkoijoolhkaaPlv
namespace Go.Proofs.Ytaikkoijoolhkaa
open Go.RowKit Go.Deep

def nE : Enc Int where
  cells z := [.int .i64 z]
  n := 1
  len _ := rfl
  one a u hu := by simp at hu; subst hu; rfl
  pos := by decide
/-- A row of ints of the call's own. -/
def Nr (w : World) (base : Nat) (v : Value) (l : List Int) : Prop := Lr nE 3 w base v l
theorem Try.infoI : (Try.prog.info? 3).map (fun i => (i.zero, i.size, i.bytes)) = some (some (.int .i64 0), 1, 8) := by kernel_rfl
theorem nr_push {W : World} {base : Nat} {v : Value} {q : Nat} {l : List Int} {z : Int} (ty : TypeId) (h : Nr W base v l) (ha : W.cell? ⟨q, 0, none⟩ = some (.int .i64 z)) (hm : l.length ≤ 100000) (hbase : base ≤ W.heap.size) :
    ∃ r c W', (Builtin.append_ #[48, 48] ty #[v, .slice (some ⟨q, 0, none⟩) 1 1]).run Try.prog W = .ok (.slice r (l ++ [z]).length c) W' ∧ Nr W' base (.slice r (l ++ [z]).length c) (l ++ [z]) ∧ W.grownBy W' v.ownBlock ∧ ((Value.slice r (l ++ [z]).length c).ownBlock = v.ownBlock ∨ (Value.slice r (l ++ [z]).length c).ownBlock = some W.heap.size) := by
  obtain ⟨i0, hi, hz0, hz1, hz2⟩ := info_parts Try.infoI
  have hel : ElAt nE W q z := fun j u hu => by
    match j, hu with
    | 0, hu => cases hu; exact ha
    | j + 1, hu => simp [nE] at hu
  obtain ⟨v', W', h1, h2, h3, h4⟩ := Lr.push (E := nE) ty Try.underlying48 hi hz0 hz1 hz2 rfl h hel hm (by decide) hbase
  obtain ⟨r, c, rfl, -⟩ := Lr.any h2
  exact ⟨r, c, W', h1, h2, h3, h4⟩
theorem ls_n {w : World} {b o : Nat} {l : List Int} (h : LsAt nE w (some ⟨b, o, none⟩) l) (k : Nat) (hk : k < l.length) : w.cell? ⟨b, o + k, none⟩ = some (.int .i64 l[k]) := by
  have := h.at k hk 0 _ rfl
  simpa [nE] using this
/-- A Queue B of the call's own; the blocks P are none of its. -/
structure Lp (w0 : World) (B : Nat) (l : List It) (P : List Nat) (W : World) : Prop where
  ex : ∃ v, QAt W w0.heap.size B v l ∧ ∀ k, k ∈ P → k < W.heap.size ∧ k ∉ feet B v
  bel : Below w0.heap.size w0 W
  ok : Okl l
section
variable {w0 W W' : World} {B : Nat} {l l' : List It} {P : List Nat}
theorem Lp.lv (h : Lp w0 B l P W) : Lv w0 B l W := by
  obtain ⟨v, h1, -⟩ := h.ex
  exact ⟨⟨v, h1⟩, h.bel, h.ok⟩
theorem Lv.lp (h : Lv w0 B l W) : Lp w0 B l [] W := by
  obtain ⟨v, h1⟩ := h.q
  exact ⟨⟨v, h1, fun k hk => by simp at hk⟩, h.bel, h.ok⟩
theorem Lp.grew (h : Lp w0 B l P W) (b : Below W.heap.size W W') : Lp w0 B l P W' := by
  obtain ⟨v, h1, h2⟩ := h.ex
  exact ⟨⟨v, h1.grew b, fun k hk => ⟨Nat.lt_of_lt_of_le (h2 k hk).1 b.size, (h2 k hk).2⟩⟩, h.bel.trans (b.mono h.bel.size), h.ok⟩
theorem Lp.add {k : Nat} (h : Lp w0 B l P W) (b : Below W.heap.size W W') (h1 : W.heap.size ≤ k) (h2 : k < W'.heap.size) : Lp w0 B l (k :: P) W' := by
  obtain ⟨v, q, h3⟩ := h.ex
  refine ⟨⟨v, q.grew b, fun i hi => ?_⟩, h.bel.trans (b.mono h.bel.size), h.ok⟩
  rcases List.mem_cons.1 hi with rfl | hi
  · exact ⟨h2, fun e => by have := (q.feet e).2; omega⟩
  · exact ⟨Nat.lt_of_lt_of_le (h3 i hi).1 b.size, (h3 i hi).2⟩
theorem Lp.less {Q : List Nat} (h : Lp w0 B l P W) (hQ : ∀ k, k ∈ Q → k ∈ P) : Lp w0 B l Q W := by
  obtain ⟨v, q, h3⟩ := h.ex
  exact ⟨⟨v, q, fun k hk => h3 k (hQ k hk)⟩, h.bel, h.ok⟩
/-- Something is done to it. -/
theorem Lp.move {fn : Nat} {args : Array Value} {R : Ending → World → Prop} (h : Lp w0 B l P W) (o' : Okl l') (C : ∀ v, QAt W w0.heap.size B v l → Calls Try.prog fn args W fun e w' => R e w' ∧ QTo W w' w0.heap.size B v l') :
    Calls Try.prog fn args W fun e w' => R e w' ∧ Lp w0 B l' P w' ∧ ∀ k, k ∈ P → w'.heap[k]? = W.heap[k]? := by
  obtain ⟨v, q, h2⟩ := h.ex
  refine Calls.mono (C v q) ?_
  rintro e w' ⟨hr, v', q', k', ho⟩
  refine ⟨hr, ⟨⟨v', q', fun k hk => ⟨Nat.lt_of_lt_of_le (h2 k hk).1 k'.size, fun e => ?_⟩⟩, h.bel.trans (k'.below (fun k hk => (q.feet hk).1) h.bel.size), o'⟩, fun k hk => k'.block k (h2 k hk).1 (h2 k hk).2⟩
  rcases mem_feet.1 e with e | e
  · exact (h2 k hk).2 (mem_feet.2 (.inl e))
  · rcases ho k e with e | e
    · exact (h2 k hk).2 (mem_feet.2 (.inr e))
    · have := (h2 k hk).1; omega
/-- A row beside it grows. -/
theorem Lp.row {vm vm' : Value} (h : Lp w0 B l vm.ownBlock.toList W) (hg : W.grownBy W' vm.ownBlock) (hw : vm'.ownBlock = vm.ownBlock ∨ vm'.ownBlock = some W.heap.size) (hb : ∀ g, vm.ownBlock = some g → w0.heap.size ≤ g) (hl : ∀ g, vm'.ownBlock = some g → g < W'.heap.size) : Lp w0 B l vm'.ownBlock.toList W' := by
  obtain ⟨v, q, h2⟩ := h.ex
  have hn : ∀ k, k ∈ feet B v → some k ≠ vm.ownBlock := fun k hk e => (h2 k (by rw [← e]; simp)).2 hk
  have hbs := h.bel.size
  refine ⟨⟨v, q.block (fun k hk => hg.block k (q.feet hk).2 (hn k hk)), fun k hk => ?_⟩, h.bel.trans ⟨hg.os, hg.tape, hg.output, hg.size, fun k hk => hg.block k (by omega) (fun e => by have := hb k e.symm; omega)⟩, h.ok⟩
  have hk' : vm'.ownBlock = some k := by
    cases e : vm'.ownBlock with
    | none => rw [e] at hk; simp at hk
    | some g => rw [e] at hk; simp at hk; rw [hk]
  refine ⟨hl k hk', fun e => ?_⟩
  rcases hw with hw | hw
  · rw [hw] at hk'
    exact hn k e hk'.symm
  · rw [hw] at hk'
    injection hk' with hk'
    have := (q.feet e).2
    omega
theorem put_lp (a : It) (h : Lp w0 B l P W) (hm : may l a) (hf : a.f < 4294967296) : Calls Try.prog 10 #[.pointer (some ⟨B, 0, none⟩), a.val] W fun e w' => e = .returned (.bool true) ∧ Lp w0 B (l ++ [a]) P w' ∧ ∀ k, k ∈ P → w'.heap[k]? = W.heap[k]? :=
  h.move (R := fun e _ => e = .returned (.bool true)) (h.ok.put hm hf) fun v q => put_yes _ B v l a W q hm h.bel.size
theorem part_lp {t : Int → It → Bool × Int} {n : Int} {v : Value} {e : Ending} (hp : PartIs [] t n W w0.heap.size B v l e W') : (∃ r c, e = .returned (.slice r (prt t n l).1.length c) ∧ LsAt iE W' r (prt t n l).1) ∧ QTo W W' w0.heap.size B v (prt t n l).2.1 := by
  obtain ⟨vg, rfl, h1, v', h2, h3, h5⟩ := hp
  obtain ⟨r, c, rfl, h4, -⟩ := Lr.any h1
  exact ⟨⟨r, c, rfl, h4⟩, v', h2, h3, fun g e => .inl (h5 g e)⟩
theorem take_lp (f : Nat) (most : Int) (h : Lp w0 B l P W) (hm : most < 9223372036854775808) : Calls Try.prog 13 #[.pointer (some ⟨B, 0, none⟩), .int .u32 (f : Int), .int .i64 most] W fun e w' => (∃ r c, e = .returned (.slice r (prt (hold f) most l).1.length c) ∧ LsAt iE w' r (prt (hold f) most l).1) ∧ Lp w0 B (prt (hold f) most l).2.1 P w' ∧ ∀ k, k ∈ P → w'.heap[k]? = W.heap[k]? :=
  h.move (R := fun e w' => ∃ r c, e = .returned (.slice r (prt (hold f) most l).1.length c) ∧ LsAt iE w' r (prt (hold f) most l).1) (h.ok.part _ _) fun v q => Calls.mono (take_any _ B f most v l W q (show l.length ≤ 100000 by have := h.ok.len; omega) (fun a ha => (h.ok.bts a ha).1) hm) fun _ _ hp => part_lp hp
theorem expire_lp (c : Int) (h : Lp w0 B l P W) : Calls Try.prog 15 #[.pointer (some ⟨B, 0, none⟩), .int .i64 c] W fun e w' => (∃ r cp, e = .returned (.slice r (prt (late c) 0 l).1.length cp) ∧ LsAt iE w' r (prt (late c) 0 l).1) ∧ Lp w0 B (prt (late c) 0 l).2.1 P w' ∧ ∀ k, k ∈ P → w'.heap[k]? = W.heap[k]? :=
  h.move (R := fun e w' => ∃ r cp, e = .returned (.slice r (prt (late c) 0 l).1.length cp) ∧ LsAt iE w' r (prt (late c) 0 l).1) (h.ok.part _ _) fun v q => Calls.mono (expire_any _ B c v l W q (show l.length ≤ 100000 by have := h.ok.len; omega)) fun _ _ hp => part_lp hp
end
end Go.Proofs.Ytaikkoijoolhkaa

/-
  Frames out of numbers: the next one.
-/
import Derived.Test.YthlidbenhlidjaaFpl
import Derived.Test.YthlidbenhlidjaaFsm
import Derived.Test.YthlidbenhlidjaaUor
namespace Go.Proofs.Ythlidbenhlidjaa
open Go.RowKit Go.Deep

theorem FrAt.setId {w : World} {B : Nat} {f : Fr} (h : FrAt w B f) (i : Nat) : FrAt (w.setCell ⟨B, 0, none⟩ (.int .u32 (i : Int))) B { f with id := i } :=
  ⟨World.cell?_setCell_same _ _ _ h.c0, (World.cell?_setCell_other _ _ _ _ (by simp)).trans h.c1, (World.cell?_setCell_other _ _ _ _ (by simp)).trans h.c2, (World.cell?_setCell_other _ _ _ _ (by simp)).trans h.c3, (World.cell?_setCell_other _ _ _ _ (by simp)).trans h.c4, (World.cell?_setCell_other _ _ _ _ (by simp)).trans h.c5, fun q => by rw [World.frozen?_setCell]; exact h.frz q⟩
theorem FrAt.setK {w : World} {B : Nat} {f : Fr} (h : FrAt w B f) (k : Int) : FrAt (w.setCell ⟨B, 1, none⟩ (.int .i64 k)) B { f with k := k } :=
  ⟨(World.cell?_setCell_other _ _ _ _ (by simp)).trans h.c0, World.cell?_setCell_same _ _ _ h.c1, (World.cell?_setCell_other _ _ _ _ (by simp)).trans h.c2, (World.cell?_setCell_other _ _ _ _ (by simp)).trans h.c3, (World.cell?_setCell_other _ _ _ _ (by simp)).trans h.c4, (World.cell?_setCell_other _ _ _ _ (by simp)).trans h.c5, fun q => by rw [World.frozen?_setCell]; exact h.frz q⟩
theorem FrAt.setRefs {w : World} {B : Nat} {f : Fr} (h : FrAt w B f) (a : Option Addr) (n c : Nat) : FrAt (w.setCell ⟨B, 2, none⟩ (.slice a n c)) B { f with a := a, n := n, c := c } :=
  ⟨(World.cell?_setCell_other _ _ _ _ (by simp)).trans h.c0, (World.cell?_setCell_other _ _ _ _ (by simp)).trans h.c1, World.cell?_setCell_same _ _ _ h.c2, (World.cell?_setCell_other _ _ _ _ (by simp)).trans h.c3, (World.cell?_setCell_other _ _ _ _ (by simp)).trans h.c4, (World.cell?_setCell_other _ _ _ _ (by simp)).trans h.c5, fun q => by rw [World.frozen?_setCell]; exact h.frz q⟩
theorem FrAt.setS {w : World} {B : Nat} {f : Fr} (h : FrAt w B f) (s : Int) : FrAt (w.setCell ⟨B, 3, none⟩ (.int .i64 s)) B { f with s := s } :=
  ⟨(World.cell?_setCell_other _ _ _ _ (by simp)).trans h.c0, (World.cell?_setCell_other _ _ _ _ (by simp)).trans h.c1, (World.cell?_setCell_other _ _ _ _ (by simp)).trans h.c2, World.cell?_setCell_same _ _ _ h.c3, (World.cell?_setCell_other _ _ _ _ (by simp)).trans h.c4, (World.cell?_setCell_other _ _ _ _ (by simp)).trans h.c5, fun q => by rw [World.frozen?_setCell]; exact h.frz q⟩
theorem FrAt.setP {w : World} {B : Nat} {f : Fr} (h : FrAt w B f) (p : Int) : FrAt (w.setCell ⟨B, 4, none⟩ (.int .i64 p)) B { f with p := p } :=
  ⟨(World.cell?_setCell_other _ _ _ _ (by simp)).trans h.c0, (World.cell?_setCell_other _ _ _ _ (by simp)).trans h.c1, (World.cell?_setCell_other _ _ _ _ (by simp)).trans h.c2, (World.cell?_setCell_other _ _ _ _ (by simp)).trans h.c3, World.cell?_setCell_same _ _ _ h.c4, (World.cell?_setCell_other _ _ _ _ (by simp)).trans h.c5, fun q => by rw [World.frozen?_setCell]; exact h.frz q⟩
theorem FrAt.setD {w : World} {B : Nat} {f : Fr} (h : FrAt w B f) (d : Int) : FrAt (w.setCell ⟨B, 5, none⟩ (.int .i64 d)) B { f with d := d } :=
  ⟨(World.cell?_setCell_other _ _ _ _ (by simp)).trans h.c0, (World.cell?_setCell_other _ _ _ _ (by simp)).trans h.c1, (World.cell?_setCell_other _ _ _ _ (by simp)).trans h.c2, (World.cell?_setCell_other _ _ _ _ (by simp)).trans h.c3, (World.cell?_setCell_other _ _ _ _ (by simp)).trans h.c4, World.cell?_setCell_same _ _ _ h.c5, fun q => by rw [World.frozen?_setCell]; exact h.frz q⟩
theorem max_i64 (ts : Array TypeId) (t : TypeId) (x y : Int) (w : World) : (Builtin.max_ ts t #[.int .i64 x, .int .i64 y]).run Try.prog w = .ok (.int .i64 (max x y)) w := by
  simp [Builtin.max_, Builtin.max2]
  repeat' split
  all_goals omega
theorem FrsAt.kept {w w' : World} {b o m R : Nat} {K : Nat → Fr} (h : FrsAt w (some ⟨b, o, none⟩) m K) (hk : Kept R w w') (hR : b ≠ R) : FrsAt w' (some ⟨b, o, none⟩) m K :=
  h.block fun b' o' e hl => by cases e; exact hk.block _ hl hR
theorem min_i64 (ts : Array TypeId) (t : TypeId) (x y N : Int) (w : World) (h : min x y = N) : (Builtin.min_ ts t #[.int .i64 x, .int .i64 y]).run Try.prog w = .ok (.int .i64 N) w := by
  subst h
  simp [Builtin.min_, Builtin.min2]
  repeat' split
  all_goals omega
/-- The next frame on its way: the variables, the row of those it hangs on. -/
structure Nx (D P : Nat) (w y : World) (N : Nat) (f : Fr) (r : Nat → Int) : Prop where
  ch : Chose D P w y
  res : FrAt y w.heap.size Fr.zero
  fr : FrAt y N f
  own : Uor y (N + 1) (.slice f.a f.n f.c) f.n r
  lt : w.heap.size < N
  lP : P < w.heap.size
  lD : D ≤ w.heap.size
theorem Nx.num {D P : Nat} {w y y' : World} {N : Nat} {f : Fr} {r : Nat → Int} (h : Nx D P w y N f r) (c : Chose D P y y') : Nx D P w y' N f r :=
  ⟨h.ch.trans c, h.res.block (c.kept.block _ h.res.lt (by have := h.lP; omega)), h.fr.block (c.kept.block _ h.fr.lt (by have := h.lP; have := h.lt; omega)), h.own.kept c.kept (by have := h.lP; have := h.lt; omega), h.lt, h.lP, h.lD⟩
theorem Nx.grew {D P : Nat} {w y y' : World} {N : Nat} {f : Fr} {r : Nat → Int} (h : Nx D P w y N f r) (hb : Below y.heap.size y y') : Nx D P w y' N f r :=
  ⟨h.ch.grew hb, h.res.grew hb, h.fr.grew hb, h.own.grew hb, h.lt, h.lP, h.lD⟩
theorem Nx.store {D P : Nat} {w y : World} {N i : Nat} {f g : Fr} {r : Nat → Int} {v : Value} (h : Nx D P w y N f r) (hg : FrAt (y.setCell ⟨N, i, none⟩ v) N g) (e : Value.slice g.a g.n g.c = .slice f.a f.n f.c) : Nx D P w (y.setCell ⟨N, i, none⟩ v) N g r := by
  refine ⟨h.ch.setNew (Nat.le_of_lt h.lt) (Nat.le_trans h.lD (Nat.le_of_lt h.lt)) v, h.res.other v (by have := h.lt; omega), hg, ?_, h.lt, h.lP, h.lD⟩
  have e2 : g.n = f.n := by cases g; cases f; cases e; rfl
  rw [e, e2]
  exact h.own.kept (Kept.set y i v) (Nat.lt_succ_self _)
/-- What was appended is stored. -/
theorem Nx.append {D P : Nat} {w y y' : World} {N : Nat} {f : Fr} {r r' : Nat → Int} {a' : Option Addr} {n' c' : Nat} (h : Nx D P w y N f r) (hb : Below (N + 1) y y') (o : Uor y' (N + 1) (.slice a' n' c') n' r') :
    Nx D P w (y'.setCell ⟨N, 2, none⟩ (.slice a' n' c')) N { f with a := a', n := n', c := c' } r' := by
  have hl := h.lt
  obtain ⟨p, hp⟩ := h.ch.picks
  have hc : Chose D P w y' := ⟨⟨hb.os.trans h.ch.kept.os, hb.tape.trans h.ch.kept.tape, hb.output.trans h.ch.kept.output, Nat.le_trans h.ch.kept.size hb.size, fun k hk hR => (hb.block k (by omega)).trans (h.ch.kept.block k hk hR)⟩, p, hp.below (hb.mono (by have := h.lD; omega))⟩
  have hN : FrAt y' N f := h.fr.block (hb.block N (Nat.lt_succ_self _))
  exact ⟨hc.setNew (Nat.le_of_lt hl) (Nat.le_trans h.lD (Nat.le_of_lt hl)) _, (h.res.block (hb.block _ (by omega))).other _ (by omega), hN.setRefs a' n' c', o.kept (Kept.set y' 2 _) (Nat.lt_succ_self _), hl, h.lP, h.lD⟩
/-- A Kind that is one. -/
def KindOk (k : Int) : Prop := 1 ≤ k ∧ k ≤ 3
/-- A Size that Next may draw. -/
def SizeOk (s : Int) : Prop := 1 ≤ s ∧ s ≤ 20
theorem kind_one : KindOk 1 := ⟨by decide, by decide⟩
theorem kind_pick (v : Nat) (h : v < 3) : KindOk (1 + (v : Int)) := ⟨by omega, by omega⟩
theorem refs_old {S : Int → Prop} {r : Nat → Int} {n : Nat} (x : Int) (h : Hid (∀ q, q < n → S (r q))) : Hid (∀ q, q < n → S (r q) ∨ r q = x) := fun q hq => .inl (h q hq)
theorem refs_own {S : Int → Prop} {r : Nat → Int} {n : Nat} (x : Int) (h : Hid (∀ q, q < n → S (r q))) : Hid (∀ q, q < n + 1 → S ((fun i => if i < n then r i else x) q) ∨ (fun i => if i < n then r i else x) q = x) := fun q hq => by
  by_cases e : q < n
  · exact .inl (show S (if q < n then r q else x) by rw [if_pos e]; exact h q e)
  · exact .inr (if_neg e)
theorem refs_push {S : Int → Prop} {r : Nat → Int} {n : Nat} {x : Int} (h : Hid (∀ q, q < n → S (r q))) (hx : Hid (S x)) : Hid (∀ q, q < n + 1 → S ((fun i => if i < n then r i else x) q)) := fun q hq => by
  show S (if q < n then r q else x)
  by_cases e : q < n
  · rw [if_pos e]; exact h q e
  · rw [if_neg e]; exact hx
/-- What Next answers: lo: the last one's ID; S: what may be hung on. -/
def NextIs (D P lo : Nat) (S : Int → Prop) (w : World) (e : Ending) (w' : World) : Prop :=
  Chose D P w w' ∧ ∃ (f : Fr) (r : Nat → Int) (v : Value), e = .returned (.tuple #[f.val, v]) ∧ Uor w' w.heap.size (.slice f.a f.n f.c) f.n r ∧ f.n ≤ 4 ∧ (f.id = 0 ∨ (lo < f.id ∧ f.id ≤ lo + 3)) ∧ KindOk f.k ∧ (∀ q, q < f.n → S (r q) ∨ r q = (f.id : Int)) ∧ SizeOk f.s
theorem Nx.done {D P lo : Nat} {S : Int → Prop} {w y y' : World} {N : Nat} {f : Fr} {r : Nat → Int} {v : Value} (h : Nx D P w y N f r) (hn : f.n ≤ 4) (hid : f.id = 0 ∨ (lo < f.id ∧ f.id ≤ lo + 3)) (hkk : KindOk f.k) (hs : ∀ q, q < f.n → S (r q) ∨ r q = (f.id : Int)) (hz : SizeOk f.s) (hy : y' = ((((((y.setCell ⟨w.heap.size, 0, none⟩ (.int .u32 (f.id : Int))).setCell ⟨w.heap.size, 1, none⟩ (.int .i64 f.k)).setCell ⟨w.heap.size, 2, none⟩ (.slice f.a f.n f.c)).setCell ⟨w.heap.size, 3, none⟩ (.int .i64 f.s)).setCell ⟨w.heap.size, 4, none⟩ (.int .i64 f.p)).setCell ⟨w.heap.size, 5, none⟩ (.int .i64 f.d))) :
    NextIs D P lo S w (.returned (.tuple #[f.val, v])) y' := by
  subst hy
  have hD := h.lD
  refine ⟨(((((h.ch.setNew (Nat.le_refl _) hD _).setNew (Nat.le_refl _) hD _).setNew (Nat.le_refl _) hD _).setNew (Nat.le_refl _) hD _).setNew (Nat.le_refl _) hD _).setNew (Nat.le_refl _) hD _, f, r, v, rfl, ?_, hn, hid, hkk, hs, hz⟩
  refine Uor.base (h.own.kept (R := w.heap.size) ((Kept.refl _ _).write 0 f) (by have := h.lt; omega)) (by have := h.lt; omega)
end Go.Proofs.Ythlidbenhlidjaa

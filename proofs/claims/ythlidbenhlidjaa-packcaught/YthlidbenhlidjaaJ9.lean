/-
  Several texts, one behind the other.
-/
import Derived.Test.YthlidbenhlidjaaJ8
import Derived.Test.YthlidbenhlidjaaJ2
import Derived.Test.YthlidbenhlidjaaJ1
import Derived.Test.YthlidbenhlidjaaJ7
import Derived.Maps.AppendAt
/-
  Frames out of numbers: the next one.
-/
namespace Go.Proofs.Ythlidbenhlidjaa
open Go.RowKit Go.Deep

theorem FrAt.setId {w : World} {B : Nat} {f : Fr} (h : FrAt w B f) (i : Nat) : FrAt (w.setCell ⟨B, 0, none⟩ (.int .u32 (i : Int))) B { f with id := i } :=
  ⟨World.cell?_setCell_same _ _ _ h.c0, (World.cell?_setCell_other _ _ _ _ (by simp)).trans h.c1, (World.cell?_setCell_other _ _ _ _ (by simp)).trans h.c2, (World.cell?_setCell_other _ _ _ _ (by simp)).trans h.c3, (World.cell?_setCell_other _ _ _ _ (by simp)).trans h.c4, (World.cell?_setCell_other _ _ _ _ (by simp)).trans h.c5, fun q => by rw [World.frozen?_setCell]; exact h.frz q⟩
theorem FrAt.setK {w : World} {B : Nat} {f : Fr} (h : FrAt w B f) (k : Int) : FrAt (w.setCell ⟨B, 1, none⟩ (.int .i64 k)) B { f with k := k } :=
  ⟨(World.cell?_setCell_other _ _ _ _ (by simp)).trans h.c0, World.cell?_setCell_same _ _ _ h.c1, (World.cell?_setCell_other _ _ _ _ (by simp)).trans h.c2, (World.cell?_setCell_other _ _ _ _ (by simp)).trans h.c3, (World.cell?_setCell_other _ _ _ _ (by simp)).trans h.c4, (World.cell?_setCell_other _ _ _ _ (by simp)).trans h.c5, fun q => by rw [World.frozen?_setCell]; exact h.frz q⟩
theorem FrAt.setRefs {w : World} {B : Nat} {f : Fr} (h : FrAt w B f) (a : Option Addr) (n c : Nat) : FrAt (w.setCell ⟨B, 2, none⟩ (.slice a n c)) B { f with a := a, n := n, c := c } :=
  ⟨(World.cell?_setCell_other _ _ _ _ (by simp)).trans h.c0, (World.cell?_setCell_other _ _ _ _ (by simp)).trans h.c1, World.cell?_setCell_same _ _ _ h.c2, (World.cell?_setCell_other _ _ _ _ (by simp)).trans h.c3, (World.cell?_setCell_other _ _ _ _ (by simp)).trans h.c4, (World.cell?_setCell_other _ _ _ _ (by simp)).trans h.c5, fun q => by rw [World.frozen?_setCell]; exact h.frz q⟩
theorem FrAt.setS {w : World} {B : Nat} {f : Fr} (h : FrAt w B f) (s : Int) : FrAt (w.setCell ⟨B, 3, none⟩ (.int .i64 s)) B { f with s := s } :=
  ⟨(World.cell?_setCell_other _ _ _ _ (by simp)).trans h.c0, (World.cell?_setCell_other _ _ _ _ (by simp)).trans h.c1, (World.cell?_setCell_other _ _ _ _ (by simp)).trans h.c2, World.cell?_setCell_same _ _ _ h.c3, (World.cell?_setCell_other _ _ _ _ (by simp)).trans h.c4, (World.cell?_setCell_other _ _ _ _ (by simp)).trans h.c5, fun q => by rw [World.frozen?_setCell]; exact h.frz q⟩
theorem FrAt.setP {w : World} {B : Nat} {f : Fr} (h : FrAt w B f) (p : Int) : FrAt (w.setCell ⟨B, 4, none⟩ (.int .i64 p)) B { f with p := p } :=
  ⟨(World.cell?_setCell_other _ _ _ _ (by simp)).trans h.c0, (World.cell?_setCell_other _ _ _ _ (by simp)).trans h.c1, (World.cell?_setCell_other _ _ _ _ (by simp)).trans h.c2, (World.cell?_setCell_other _ _ _ _ (by simp)).trans h.c3, World.cell?_setCell_same _ _ _ h.c4, (World.cell?_setCell_other _ _ _ _ (by simp)).trans h.c5, fun q => by rw [World.frozen?_setCell]; exact h.frz q⟩
theorem FrAt.setD {w : World} {B : Nat} {f : Fr} (h : FrAt w B f) (d : Int) : FrAt (w.setCell ⟨B, 5, none⟩ (.int .i64 d)) B { f with d := d } :=
  ⟨(World.cell?_setCell_other _ _ _ _ (by simp)).trans h.c0, (World.cell?_setCell_other _ _ _ _ (by simp)).trans h.c1, (World.cell?_setCell_other _ _ _ _ (by simp)).trans h.c2, (World.cell?_setCell_other _ _ _ _ (by simp)).trans h.c3, (World.cell?_setCell_other _ _ _ _ (by simp)).trans h.c4, World.cell?_setCell_same _ _ _ h.c5, fun q => by rw [World.frozen?_setCell]; exact h.frz q⟩
theorem max_i64 (ts : Array TypeId) (t : TypeId) (x y : Int) (w : World) : (Builtin.max_ ts t #[.int .i64 x, .int .i64 y]).run Try.prog w = .ok (.int .i64 (max x y)) w := by
  simp [Builtin.max_, Builtin.max2]
  repeat' split
  all_goals omega
theorem FrsAt.kept {w w' : World} {b o m R : Nat} {K : Nat → Fr} (h : FrsAt w (some ⟨b, o, none⟩) m K) (hk : Kept R w w') (hR : b ≠ R) : FrsAt w' (some ⟨b, o, none⟩) m K :=
  h.block fun b' o' e hl => by cases e; exact hk.block _ hl hR
theorem min_i64 (ts : Array TypeId) (t : TypeId) (x y N : Int) (w : World) (h : min x y = N) : (Builtin.min_ ts t #[.int .i64 x, .int .i64 y]).run Try.prog w = .ok (.int .i64 N) w := by
  subst h
  simp [Builtin.min_, Builtin.min2]
  repeat' split
  all_goals omega
/-- The next frame on its way: the variables, the row of those it hangs on. -/
structure Nx (D P : Nat) (w y : World) (N : Nat) (f : Fr) (r : Nat → Int) : Prop where
  ch : Chose D P w y
  res : FrAt y w.heap.size Fr.zero
  fr : FrAt y N f
  own : Uor y (N + 1) (.slice f.a f.n f.c) f.n r
  lt : w.heap.size < N
  lP : P < w.heap.size
  lD : D ≤ w.heap.size
theorem Nx.num {D P : Nat} {w y y' : World} {N : Nat} {f : Fr} {r : Nat → Int} (h : Nx D P w y N f r) (c : Chose D P y y') : Nx D P w y' N f r :=
  ⟨h.ch.trans c, h.res.block (c.kept.block _ h.res.lt (by have := h.lP; omega)), h.fr.block (c.kept.block _ h.fr.lt (by have := h.lP; have := h.lt; omega)), h.own.kept c.kept (by have := h.lP; have := h.lt; omega), h.lt, h.lP, h.lD⟩
theorem Nx.grew {D P : Nat} {w y y' : World} {N : Nat} {f : Fr} {r : Nat → Int} (h : Nx D P w y N f r) (hb : Below y.heap.size y y') : Nx D P w y' N f r :=
  ⟨h.ch.grew hb, h.res.grew hb, h.fr.grew hb, h.own.grew hb, h.lt, h.lP, h.lD⟩
theorem Nx.store {D P : Nat} {w y : World} {N i : Nat} {f g : Fr} {r : Nat → Int} {v : Value} (h : Nx D P w y N f r) (hg : FrAt (y.setCell ⟨N, i, none⟩ v) N g) (e : Value.slice g.a g.n g.c = .slice f.a f.n f.c) : Nx D P w (y.setCell ⟨N, i, none⟩ v) N g r := by
  refine ⟨h.ch.setNew (Nat.le_of_lt h.lt) (Nat.le_trans h.lD (Nat.le_of_lt h.lt)) v, h.res.other v (by have := h.lt; omega), hg, ?_, h.lt, h.lP, h.lD⟩
  have e2 : g.n = f.n := by cases g; cases f; cases e; rfl
  rw [e, e2]
  exact h.own.kept (Kept.set y i v) (Nat.lt_succ_self _)
/-- What was appended is stored. -/
theorem Nx.append {D P : Nat} {w y y' : World} {N : Nat} {f : Fr} {r r' : Nat → Int} {a' : Option Addr} {n' c' : Nat} (h : Nx D P w y N f r) (hb : Below (N + 1) y y') (o : Uor y' (N + 1) (.slice a' n' c') n' r') :
    Nx D P w (y'.setCell ⟨N, 2, none⟩ (.slice a' n' c')) N { f with a := a', n := n', c := c' } r' := by
  have hl := h.lt
  obtain ⟨p, hp⟩ := h.ch.picks
  have hc : Chose D P w y' := ⟨⟨hb.os.trans h.ch.kept.os, hb.tape.trans h.ch.kept.tape, hb.output.trans h.ch.kept.output, Nat.le_trans h.ch.kept.size hb.size, fun k hk hR => (hb.block k (by omega)).trans (h.ch.kept.block k hk hR)⟩, p, hp.below (hb.mono (by have := h.lD; omega))⟩
  have hN : FrAt y' N f := h.fr.block (hb.block N (Nat.lt_succ_self _))
  exact ⟨hc.setNew (Nat.le_of_lt hl) (Nat.le_trans h.lD (Nat.le_of_lt hl)) _, (h.res.block (hb.block _ (by omega))).other _ (by omega), hN.setRefs a' n' c', o.kept (Kept.set y' 2 _) (Nat.lt_succ_self _), hl, h.lP, h.lD⟩
/-- A Kind that is one. -/
def KindOk (k : Int) : Prop := 1 ≤ k ∧ k ≤ 3
/-- A Size that Next may draw. -/
def SizeOk (s : Int) : Prop := 1 ≤ s ∧ s ≤ 20
theorem kind_one : KindOk 1 := ⟨by decide, by decide⟩
theorem kind_pick (v : Nat) (h : v < 3) : KindOk (1 + (v : Int)) := ⟨by omega, by omega⟩
theorem refs_old {S : Int → Prop} {r : Nat → Int} {n : Nat} (x : Int) (h : Hid (∀ q, q < n → S (r q))) : Hid (∀ q, q < n → S (r q) ∨ r q = x) := fun q hq => .inl (h q hq)
theorem refs_own {S : Int → Prop} {r : Nat → Int} {n : Nat} (x : Int) (h : Hid (∀ q, q < n → S (r q))) : Hid (∀ q, q < n + 1 → S ((fun i => if i < n then r i else x) q) ∨ (fun i => if i < n then r i else x) q = x) := fun q hq => by
  by_cases e : q < n
  · exact .inl (show S (if q < n then r q else x) by rw [if_pos e]; exact h q e)
  · exact .inr (if_neg e)
theorem refs_push {S : Int → Prop} {r : Nat → Int} {n : Nat} {x : Int} (h : Hid (∀ q, q < n → S (r q))) (hx : Hid (S x)) : Hid (∀ q, q < n + 1 → S ((fun i => if i < n then r i else x) q)) := fun q hq => by
  show S (if q < n then r q else x)
  by_cases e : q < n
  · rw [if_pos e]; exact h q e
  · rw [if_neg e]; exact hx
/-- What Next answers: lo: the last one's ID; S: what may be hung on. -/
def NextIs (D P lo : Nat) (S : Int → Prop) (w : World) (e : Ending) (w' : World) : Prop :=
  Chose D P w w' ∧ ∃ (f : Fr) (r : Nat → Int) (v : Value), e = .returned (.tuple #[f.val, v]) ∧ Uor w' w.heap.size (.slice f.a f.n f.c) f.n r ∧ f.n ≤ 4 ∧ (f.id = 0 ∨ (lo < f.id ∧ f.id ≤ lo + 3)) ∧ KindOk f.k ∧ (∀ q, q < f.n → S (r q) ∨ r q = (f.id : Int)) ∧ SizeOk f.s
theorem Nx.done {D P lo : Nat} {S : Int → Prop} {w y y' : World} {N : Nat} {f : Fr} {r : Nat → Int} {v : Value} (h : Nx D P w y N f r) (hn : f.n ≤ 4) (hid : f.id = 0 ∨ (lo < f.id ∧ f.id ≤ lo + 3)) (hkk : KindOk f.k) (hs : ∀ q, q < f.n → S (r q) ∨ r q = (f.id : Int)) (hz : SizeOk f.s) (hy : y' = ((((((y.setCell ⟨w.heap.size, 0, none⟩ (.int .u32 (f.id : Int))).setCell ⟨w.heap.size, 1, none⟩ (.int .i64 f.k)).setCell ⟨w.heap.size, 2, none⟩ (.slice f.a f.n f.c)).setCell ⟨w.heap.size, 3, none⟩ (.int .i64 f.s)).setCell ⟨w.heap.size, 4, none⟩ (.int .i64 f.p)).setCell ⟨w.heap.size, 5, none⟩ (.int .i64 f.d))) :
    NextIs D P lo S w (.returned (.tuple #[f.val, v])) y' := by
  subst hy
  have hD := h.lD
  refine ⟨(((((h.ch.setNew (Nat.le_refl _) hD _).setNew (Nat.le_refl _) hD _).setNew (Nat.le_refl _) hD _).setNew (Nat.le_refl _) hD _).setNew (Nat.le_refl _) hD _).setNew (Nat.le_refl _) hD _, f, r, v, rfl, ?_, hn, hid, hkk, hs, hz⟩
  refine Uor.base (h.own.kept (R := w.heap.size) ((Kept.refl _ _).write 0 f) (by have := h.lt; omega)) (by have := h.lt; omega)
end Go.Proofs.Ythlidbenhlidjaa

/-
  Frames out of numbers: the next one, behind nobody.
-/
namespace Go.Proofs.Ythlidbenhlidjaa
open Go.RowKit Go.Deep

set_option maxRecDepth 100000 in
set_option maxHeartbeats 4000000 in
theorem next_none (D P p0 lo : Nat) (a : Option Addr) (c : Nat) (t : Nat) (w : World) (h : Picks D w P p0) (hD : D ≤ w.heap.size) (ht : t ≤ 1000) (Hlo : Hid (lo = 0)) (S : Int → Prop) :
    Calls Try.prog 14 #[.pointer (some ⟨P, 0, none⟩), .slice a 0 c, .int .i64 (t : Int), .int .i64 4] w (NextIs D P lo S w) := by
  have hmx := max_i64
  have B0 := box_below w (.cells #[.int .u32 0, .int .i64 0, .slice none 0 0, .int .i64 0, .int .i64 0, .int .i64 0] 25)
  have C0 : Hid (Chose D P w (w.alloc (.cells #[.int .u32 0, .int .i64 0, .slice none 0 0, .int .i64 0, .int .i64 0, .int .i64 0] 25))) := ⟨Kept.of_below B0, p0, h.grew B0⟩
  have R0 : Hid (FrAt (w.alloc (.cells #[.int .u32 0, .int .i64 0, .slice none 0 0, .int .i64 0, .int .i64 0, .int .i64 0] 25)) w.heap.size Fr.zero) := FrAt.made w _ Fr.zero
  have lP : P < w.heap.size := h.lt.1
  have sz : Hid (w.heap.size < (w.alloc (.cells #[.int .u32 0, .int .i64 0, .slice none 0 0, .int .i64 0, .int .i64 0, .int .i64 0] 25)).heap.size) := by show w.heap.size < _; simp
  clear B0 h
  go_enter Try.func14, Try.ntmps14
  go_wp2_with fail
  generalize w.alloc (.cells #[.int .u32 0, .int .i64 0, .slice none 0 0, .int .i64 0, .int .i64 0, .int .i64 0] 25) = x0 at *
  obtain ⟨q, hq⟩ := C0.out.picks
  refine (num_pk D P q 3 _ hq (by decide) (by decide)).mono ?_
  rintro e x1 ⟨c1, v1, rfl, hv1⟩
  have C0 : Hid (Chose D P w x1) := C0.out.trans c1
  have R0 : Hid (FrAt x1 w.heap.size Fr.zero) := R0.out.block (c1.kept.block _ R0.out.lt (by omega))
  have sz : Hid (w.heap.size < x1.heap.size) := Nat.lt_of_lt_of_le sz.out c1.kept.size
  clear c1 hq
  go_wp2_with fail
  obtain ⟨q, hq⟩ := C0.out.picks
  refine (num_pk D P q 3 _ hq (by decide) (by decide)).mono ?_
  rintro e x2 ⟨c1, v2, rfl, hv2⟩
  have C0 : Hid (Chose D P w x2) := C0.out.trans c1
  have R0 : Hid (FrAt x2 w.heap.size Fr.zero) := R0.out.block (c1.kept.block _ R0.out.lt (by omega))
  have sz : Hid (w.heap.size < x2.heap.size) := Nat.lt_of_lt_of_le sz.out c1.kept.size
  clear c1 hq
  go_wp2_with fail
  obtain ⟨q, hq⟩ := C0.out.picks
  refine (num_pk D P q 4 _ hq (by decide) (by decide)).mono ?_
  rintro e x3 ⟨c1, v3, rfl, hv3⟩
  have C0 : Hid (Chose D P w x3) := C0.out.trans c1
  have R0 : Hid (FrAt x3 w.heap.size Fr.zero) := R0.out.block (c1.kept.block _ R0.out.lt (by omega))
  have sz : Hid (w.heap.size < x3.heap.size) := Nat.lt_of_lt_of_le sz.out c1.kept.size
  clear c1 hq
  go_wp2_with fail
  obtain ⟨q, hq⟩ := C0.out.picks
  refine (num_pk D P q 8 _ hq (by decide) (by decide)).mono ?_
  rintro e x4 ⟨c1, v4, rfl, hv4⟩
  have C0 : Hid (Chose D P w x4) := C0.out.trans c1
  have R0 : Hid (FrAt x4 w.heap.size Fr.zero) := R0.out.block (c1.kept.block _ R0.out.lt (by omega))
  have sz : Hid (w.heap.size < x4.heap.size) := Nat.lt_of_lt_of_le sz.out c1.kept.size
  clear c1 hq
  obtain ⟨pp, ep⟩ : ∃ x, (t : Int) + (v3 : Int) = x := ⟨_, rfl⟩
  obtain ⟨dd, ed⟩ : ∃ x, (t : Int) + (2 + (v4 : Int)) = x := ⟨_, rfl⟩
  obtain ⟨y0, e0⟩ : ∃ x, x4.alloc (.cells #[.int .u32 (1 + (v1 : Int)), .int .i64 (1 + (v2 : Int)), .slice none 0 0, .int .i64 0, .int .i64 pp, .int .i64 dd] 25) = x := ⟨_, rfl⟩
  have B0 : Below x4.heap.size x4 y0 := e0 ▸ box_below x4 _
  have F0 : FrAt y0 x4.heap.size ⟨1 + v1, 1 + (v2 : Int), none, 0, 0, 0, pp, dd⟩ := e0 ▸ FrAt.made x4 _ ⟨1 + v1, 1 + (v2 : Int), none, 0, 0, 0, pp, dd⟩
  have N0 : Nx D P w y0 x4.heap.size ⟨1 + v1, 1 + (v2 : Int), none, 0, 0, 0, pp, dd⟩ (fun _ => 0) := ⟨C0.out.grew B0, R0.out.grew B0, F0, Uor.nil _ _ _, sz.out, lP, hD⟩
  have lN := sz.out
  obtain ⟨y3, e3⟩ : ∃ x, y0.setCell ⟨x4.heap.size, 1, none⟩ (.int .i64 1) = x := ⟨_, rfl⟩
  have N3 : Nx D P w y3 x4.heap.size ⟨1 + v1, 1, none, 0, 0, 0, pp, dd⟩ (fun _ => 0) := e3 ▸ N0.store (F0.setK 1) rfl
  obtain ⟨g0, g1, g2, g3, g4, g5, gz⟩ := F0
  have gz1 := gz 1
  obtain ⟨f0, f1, f2, f3, f4, f5, fz⟩ := N3.fr
  have fz5 := fz 5
  simp only at f0 f1 f2 f3 f4 f5 g0 g1 g2 g3 g4 g5
  obtain ⟨y4, e4⟩ : ∃ x, y3.setCell ⟨x4.heap.size, 5, none⟩ (.int .i64 (max dd pp)) = x := ⟨_, rfl⟩
  have HN4 : Hid (Nx D P w y4 x4.heap.size ⟨1 + v1, 1, none, 0, 0, 0, pp, max dd pp⟩ (fun _ => 0)) := e4 ▸ N3.store (N3.fr.setD _) rfl
  clear fz gz N3 N0 B0
  go_wp2_with fail
  clear ep ed e4 e3 e0 f0 f1 f2 f3 f4 f5 fz5 g0 g1 g2 g3 g4 g5 gz1 C0 R0 sz lN
  generalize x4.heap.size = N at *
  obtain ⟨id, k, p, d, hid, hk, HN⟩ : ∃ (id : Nat) (k p d : Int), (lo < id ∧ id ≤ lo + 3) ∧ k = 1 ∧ Hid (Nx D P w y4 N ⟨id, k, none, 0, 0, 0, p, d⟩ (fun _ => 0)) := ⟨_, _, _, _, by have := Hlo.out; omega, rfl, HN4⟩
  clear HN4
  obtain ⟨q, hq⟩ := HN.out.ch.picks
  refine (num_pk D P q 3 _ hq (by decide) (by decide)).mono ?_
  rintro e y5 ⟨c1, v5, rfl, hv5⟩
  have HN : Hid (Nx D P w y5 N ⟨id, k, none, 0, 0, 0, p, d⟩ (fun _ => 0)) := HN.out.num c1
  clear c1 hq
  obtain ⟨f0, f1, f2, f3, f4, f5, -⟩ := HN.out.fr
  simp only [hk] at f0 f1 f2 f3 f4 f5
  go_wp2_with fail
  go_loopw [12] (fun i wr => i = .int .i64 (v5 : Int) ∧ wr = y5) (fun _ _ => 0)
  case atStart => exact ⟨rfl, rfl⟩
  case round =>
    obtain ⟨rfl, rfl⟩ := hrel
    generalize wr = y5 at *
    obtain ⟨f, hf⟩ : ∃ f : Fr, f = ⟨id, k, none, 0, 0, 0, p, d⟩ := ⟨_, rfl⟩
    have HT : Hid (Nx D P w y5 N f (fun _ => 0)) := by rw [hf]; exact HN.out
    obtain ⟨r, hr⟩ : ∃ r : Nat → Int, r = fun _ => 0 := ⟨_, rfl⟩
    rw [← hr] at HT
    have hn3 : f.n ≤ 3 := by rw [hf]; show 0 ≤ 3; decide
    have hid : lo < f.id ∧ f.id ≤ lo + 3 := by rw [hf]; exact hid
    have hkk : Hid (KindOk f.k) := by rw [hf, hk]; exact kind_one
    have HS : Hid (∀ q, q < f.n → S (r q)) := by rw [hf]; exact fun q hq => absurd hq (Nat.not_lt_zero q)
    clear HN
    go_wp2_with fail
    clear hf hr hk
    obtain ⟨q, hq⟩ := HT.out.ch.picks
    refine (num_pk D P q 20 _ hq (by decide) (by decide)).mono ?_
    rintro e y6 ⟨c1, v6, rfl, hv6⟩
    have HT : Hid (Nx D P w y6 N f r) := HT.out.num c1
    clear c1 hq f0 f1 f2 f3 f4 f5
    obtain ⟨f0, f1, f2, f3, f4, f5, fz⟩ := HT.out.fr
    have fz3 := fz 3
    obtain ⟨s, hs⟩ : ∃ s : Nat, (1 + (v6 : Int)) = (s : Int) := ⟨1 + v6, by omega⟩
    have s20 : s ≤ 20 := by omega
    have hss : Hid (SizeOk (s : Int)) := ⟨by omega, by omega⟩
    obtain ⟨y7, e7⟩ : ∃ x, y6.setCell ⟨N, 3, none⟩ (.int .i64 (s : Int)) = x := ⟨_, rfl⟩
    have HT7 : Hid (Nx D P w y7 N { f with s := (s : Int) } r) := e7 ▸ HT.out.store (HT.out.fr.setS (s : Int)) rfl
    obtain ⟨g0, g1, g2, g3, g4, g5, -⟩ := HT7.out.fr
    simp only at g0 g1 g2 g3 g4 g5
    clear fz HT
    go_wp2_with fail
    clear e7 f0 f1 f2 f3 f4 f5 fz3 g0 g1 g2 g3 g4 g5
    obtain ⟨q, hq⟩ := HT7.out.ch.picks
    refine (body_any D P q s _ hq (Nat.le_trans hD (HT7.out.ch.kept.size)) (by omega)).mono ?_
    rintro e y8 ⟨c1, bv, bxs, rfl, bo⟩
    have BO : Hid (y8.ownsRow y7.heap.size 5 1 bv s bxs) := bo
    have HT : Hid (Nx D P w y8 N { f with s := (s : Int) } r) := HT7.out.num c1
    have HO : Hid (∀ g, (Value.slice ({ f with s := (s : Int) } : Fr).a ({ f with s := (s : Int) } : Fr).n ({ f with s := (s : Int) } : Fr).c).ownBlock = some g → bv.ownBlock ≠ some g) := fun g e e2 => by
      have q1 := (World.ownsRow.lt HT7.out.own g e).2
      have q2 := (bo.lt g e2).1
      omega
    have sz7 : Hid (N < y7.heap.size ∧ y7.heap.size ≤ y8.heap.size) := ⟨HT7.out.fr.lt, c1.kept.size⟩
    have hn3 : ({ f with s := (s : Int) } : Fr).n ≤ 3 := hn3
    have hid : lo < ({ f with s := (s : Int) } : Fr).id ∧ ({ f with s := (s : Int) } : Fr).id ≤ lo + 3 := hid
    have hkk : Hid (KindOk ({ f with s := (s : Int) } : Fr).k) := hkk
    have hss : Hid (SizeOk ({ f with s := (s : Int) } : Fr).s) := hss
    have HS : Hid (∀ q, q < ({ f with s := (s : Int) } : Fr).n → S (r q)) := HS
    clear c1 hq HT7 bo hs hv6
    generalize ({ f with s := (s : Int) } : Fr) = f at *
    go_wp2_with fail
    obtain ⟨q, hq⟩ := HT.out.ch.picks
    refine (num_pk D P q 25 _ hq (by decide) (by decide)).mono ?_
    rintro e y9 ⟨c1, v7, rfl, hv7⟩
    have HT : Hid (Nx D P w y9 N f r) := HT.out.num c1
    have BO : Hid (y9.ownsRow (N + 1) 5 1 bv s bxs) := by
      have b := BO.out
      refine World.ownsRow.kept (row := some P) (base := N + 1) ?_ ⟨c1.kept.os, c1.kept.tape, c1.kept.output, c1.kept.size, fun k hk hne => c1.kept.block k hk (fun e => hne (by rw [e]))⟩ ?_
      · refine ⟨b.1, ?_⟩
        rcases b.2 with b2 | ⟨g, cap, cur, e, hg, b3⟩
        · exact .inl b2
        · exact .inr ⟨g, cap, cur, e, by have := sz7.out.1; omega, b3⟩
      · cases e : bv.ownBlock with
        | none => exact .inl rfl
        | some g =>
          have := (b.lt g e).1
          refine .inr fun e2 => ?_
          cases e2
          have := HT.out.lP
          have := HT.out.lt
          have := sz7.out.1
          omega
    clear c1 hq sz7
    obtain ⟨f0, f1, f2, f3, f4, f5, fz⟩ := HT.out.fr
    obtain ⟨r0, r1, r2, r3, r4, r5, rz⟩ := HT.out.res
    simp only [Fr.zero] at r0 r1 r2 r3 r4 r5
    by_cases h0 : v7 = 0
    · have e0 : ((v7 : Int) == 0) = true := by simp [h0]
      obtain ⟨z1, ez1⟩ : ∃ x, y9.alloc (.cells #[.int .u32 (f.id : Int)] 22) = x := ⟨_, rfl⟩
      have Bz : Below y9.heap.size y9 z1 := ez1 ▸ box_below y9 _
      have Nz : NumsAt .u32 z1 (some ⟨y9.heap.size, 0, none⟩) 1 (fun _ => (f.id : Int)) := ez1 ▸ (fun _ => ⟨_, 0, rfl, fun i hi => by
        obtain rfl : i = 0 := by omega
        rw [World.cell?_alloc_at _ _ _ _ rfl]; rfl⟩)
      have HZ := HT.out.grew Bz
      obtain ⟨v', z2, happ, ho, hgr⟩ := Uor.push (c := 1) 23 HZ.own Nz (by decide) (by omega) (by have := HZ.fr.lt; omega)
      have hbz := HZ.own.grown hgr (by have := HZ.fr.lt; omega)
      obtain ⟨a', c', rfl, -, -, -⟩ := ho.any
      obtain ⟨z3, ez3⟩ : ∃ x, z2.setCell ⟨N, 2, none⟩ (.slice a' (f.n + 1) c') = x := ⟨_, rfl⟩
      have fr2 := HZ.fr.block (hbz.block N (Nat.lt_succ_self _))
      have c2 := fr2.c2
      have z2z := fr2.frz 2
      obtain ⟨g, hg⟩ : ∃ g : Fr, g = { f with a := a', n := f.n + 1, c := c' } := ⟨_, rfl⟩
      have HF : Hid (Nx D P w z3 N g (fun i => if i < f.n then r i else (f.id : Int))) := by rw [hg]; exact ez3 ▸ HZ.append hbz ho
      have hg4 : g.n ≤ 4 := by rw [hg]; simp only; omega
      have hgi : g.id = 0 ∨ (lo < g.id ∧ g.id ≤ lo + 3) := by rw [hg]; exact .inr hid
      have hgk : Hid (KindOk g.k) := by rw [hg]; exact hkk
      have hgz : Hid (SizeOk g.s) := by rw [hg]; exact hss
      have hgs : Hid (∀ q, q < g.n → S ((fun i => if i < f.n then r i else (f.id : Int)) q) ∨ (fun i => if i < f.n then r i else (f.id : Int)) q = (g.id : Int)) := by rw [hg]; exact refs_own (f.id : Int) HS
      clear hg Bz Nz HZ hbz ho hgr fr2 h0
      obtain ⟨g0, g1, g2, g3, g4, g5, -⟩ := HF.out.fr
      obtain ⟨u0, u1, u2, u3, u4, u5, uz⟩ := HF.out.res
      simp only [Fr.zero] at u0 u1 u2 u3 u4 u5
      have uz0 := uz 0
      have uz1 := uz 1
      have uz2 := uz 2
      have uz3 := uz 3
      have uz4 := uz 4
      have uz5 := uz 5
      have HD : Hid (∀ v, NextIs D P lo S w (.returned (.tuple #[.agg #[.int .u32 (g.id : Int), .int .i64 g.k, .slice g.a g.n g.c, .int .i64 g.s, .int .i64 g.p, .int .i64 g.d], v])) ((((((z3.setCell ⟨w.heap.size, 0, none⟩ (.int .u32 (g.id : Int))).setCell ⟨w.heap.size, 1, none⟩ (.int .i64 g.k)).setCell ⟨w.heap.size, 2, none⟩ (.slice g.a g.n g.c)).setCell ⟨w.heap.size, 3, none⟩ (.int .i64 g.s)).setCell ⟨w.heap.size, 4, none⟩ (.int .i64 g.p)).setCell ⟨w.heap.size, 5, none⟩ (.int .i64 g.d))) := fun v => HF.out.done hg4 hgi hgk.out hgs.out hgz.out rfl
      have HW : Hid (FrAt ((((((z3.setCell ⟨w.heap.size, 0, none⟩ (.int .u32 (g.id : Int))).setCell ⟨w.heap.size, 1, none⟩ (.int .i64 g.k)).setCell ⟨w.heap.size, 2, none⟩ (.slice g.a g.n g.c)).setCell ⟨w.heap.size, 3, none⟩ (.int .i64 g.s)).setCell ⟨w.heap.size, 4, none⟩ (.int .i64 g.p)).setCell ⟨w.heap.size, 5, none⟩ (.int .i64 g.d)) w.heap.size g) := HF.out.res.write g
      clear uz HF HT BO hg4 hgi hgk hgs hgz HS hkk hss hid hn3
      go_wp2_with (at_builtin; refine Go.Lib.wpList_append_run _ rfl (.tmp 140) (.tmp 143) 23 23 rfl _ _ rfl rfl _ _ happ ?_)
      generalize ((((((z3.setCell ⟨w.heap.size, 0, none⟩ (.int .u32 (g.id : Int))).setCell ⟨w.heap.size, 1, none⟩ (.int .i64 g.k)).setCell ⟨w.heap.size, 2, none⟩ (.slice g.a g.n g.c)).setCell ⟨w.heap.size, 3, none⟩ (.int .i64 g.s)).setCell ⟨w.heap.size, 4, none⟩ (.int .i64 g.p)).setCell ⟨w.heap.size, 5, none⟩ (.int .i64 g.d)) = yz at *
      obtain ⟨p0, p1, p2, p3, p4, p5, -⟩ := HW.out
      refine bodyPost_ret (v := .tuple #[.agg #[.int .u32 (g.id : Int), .int .i64 g.k, .slice g.a g.n g.c, .int .i64 g.s, .int .i64 g.p, .int .i64 g.d], bv]) ?_ rfl (HD.out _)
      simp [results, Try.results14, go_sem, p0, p1, p2, p3, p4, p5]
    have e0 : ((v7 : Int) == 0) = false := by simp; omega
    by_cases h1 : v7 = 1
    · have e1 : ((v7 : Int) == 1) = true := by simp [h1]
      obtain ⟨z3, ez3⟩ : ∃ x, y9.setCell ⟨N, 5, none⟩ (.int .i64 (t : Int)) = x := ⟨_, rfl⟩
      have fz5 := fz 5
      obtain ⟨g, hg⟩ : ∃ g : Fr, g = { f with d := (t : Int) } := ⟨_, rfl⟩
      have HF : Hid (Nx D P w z3 N g r) := by rw [hg]; exact ez3 ▸ HT.out.store (HT.out.fr.setD (t : Int)) rfl
      have hg4 : g.n ≤ 4 := by rw [hg]; simp only; omega
      have hgi : g.id = 0 ∨ (lo < g.id ∧ g.id ≤ lo + 3) := by rw [hg]; exact .inr hid
      have hgk : Hid (KindOk g.k) := by rw [hg]; exact hkk
      have hgz : Hid (SizeOk g.s) := by rw [hg]; exact hss
      have hgs : Hid (∀ q, q < g.n → S (r q) ∨ r q = (g.id : Int)) := by rw [hg]; exact refs_old _ HS
      clear hg h0 h1 fz
      obtain ⟨g0, g1, g2, g3, g4, g5, -⟩ := HF.out.fr
      obtain ⟨u0, u1, u2, u3, u4, u5, uz⟩ := HF.out.res
      simp only [Fr.zero] at u0 u1 u2 u3 u4 u5
      have uz0 := uz 0
      have uz1 := uz 1
      have uz2 := uz 2
      have uz3 := uz 3
      have uz4 := uz 4
      have uz5 := uz 5
      have HD : Hid (∀ v, NextIs D P lo S w (.returned (.tuple #[.agg #[.int .u32 (g.id : Int), .int .i64 g.k, .slice g.a g.n g.c, .int .i64 g.s, .int .i64 g.p, .int .i64 g.d], v])) ((((((z3.setCell ⟨w.heap.size, 0, none⟩ (.int .u32 (g.id : Int))).setCell ⟨w.heap.size, 1, none⟩ (.int .i64 g.k)).setCell ⟨w.heap.size, 2, none⟩ (.slice g.a g.n g.c)).setCell ⟨w.heap.size, 3, none⟩ (.int .i64 g.s)).setCell ⟨w.heap.size, 4, none⟩ (.int .i64 g.p)).setCell ⟨w.heap.size, 5, none⟩ (.int .i64 g.d))) := fun v => HF.out.done hg4 hgi hgk.out hgs.out hgz.out rfl
      have HW : Hid (FrAt ((((((z3.setCell ⟨w.heap.size, 0, none⟩ (.int .u32 (g.id : Int))).setCell ⟨w.heap.size, 1, none⟩ (.int .i64 g.k)).setCell ⟨w.heap.size, 2, none⟩ (.slice g.a g.n g.c)).setCell ⟨w.heap.size, 3, none⟩ (.int .i64 g.s)).setCell ⟨w.heap.size, 4, none⟩ (.int .i64 g.p)).setCell ⟨w.heap.size, 5, none⟩ (.int .i64 g.d)) w.heap.size g) := HF.out.res.write g
      clear uz HF HT BO hg4 hgi hgk hgs hgz HS hkk hss hid hn3
      go_wp2
      generalize ((((((z3.setCell ⟨w.heap.size, 0, none⟩ (.int .u32 (g.id : Int))).setCell ⟨w.heap.size, 1, none⟩ (.int .i64 g.k)).setCell ⟨w.heap.size, 2, none⟩ (.slice g.a g.n g.c)).setCell ⟨w.heap.size, 3, none⟩ (.int .i64 g.s)).setCell ⟨w.heap.size, 4, none⟩ (.int .i64 g.p)).setCell ⟨w.heap.size, 5, none⟩ (.int .i64 g.d)) = yz at *
      obtain ⟨p0, p1, p2, p3, p4, p5, -⟩ := HW.out
      refine bodyPost_ret (v := .tuple #[.agg #[.int .u32 (g.id : Int), .int .i64 g.k, .slice g.a g.n g.c, .int .i64 g.s, .int .i64 g.p, .int .i64 g.d], bv]) ?_ rfl (HD.out _)
      simp [results, Try.results14, go_sem, p0, p1, p2, p3, p4, p5]
    have e1 : ((v7 : Int) == 1) = false := by simp; omega
    by_cases h2 : v7 = 2
    · have e2 : ((v7 : Int) == 2) = true := by simp [h2]
      obtain ⟨z1, ez1⟩ : ∃ x, y9.alloc (.cells #[.int .u8 1] 5) = x := ⟨_, rfl⟩
      have Bz : Below y9.heap.size y9 z1 := ez1 ▸ box_below y9 _
      have HZ := HT.out.grew Bz
      obtain ⟨i0, hi, hz0, hz1, hz2⟩ := info_parts Try.infoByte
      have BZ : z1.ownsRow (N + 1) 5 1 bv s bxs := by
        refine World.ownsRow.kept (row := none) BO.out ⟨Bz.os, Bz.tape, Bz.output, Bz.size, fun k hk _ => Bz.block k hk⟩ ?_
        cases e : bv.ownBlock with
        | none => exact .inl rfl
        | some g => exact .inr (by simp)
      obtain ⟨v', z3, happ, ho, hgr, -, -⟩ := run_append_own_at (P := Try.prog) z1 (N + 1) 26 26 5 i0 (.int .u8 0) 1 1 Try.underlying26 hi hz0 hz1 hz2 rfl (by decide) bv s bxs BZ ⟨y9.heap.size, 0, none⟩ 1 1 [.int .u8 1] rfl
        (fun j u hj => by
          cases j with
          | zero => cases hj; rw [← ez1]; show (y9.alloc _).cell? ⟨y9.heap.size, 0, none⟩ = _; rw [World.cell?_alloc_at _ _ _ _ rfl]; rfl
          | succ j => simp at hj) (by intro u hu; simp at hu; subst hu; rfl) (by unfold maxLen; omega) (by omega) (by have := HZ.fr.lt; omega)
      have hbz : Below (N + 1) z1 z3 := ⟨hgr.os, hgr.tape, hgr.output, hgr.size, fun k hk => hgr.block k (by have := HZ.fr.lt; omega) (fun e => by have := (BZ.lt k e.symm).1; omega)⟩
      have HF0 : Nx D P w z3 N f r := by
        have hl := HZ.lt
        obtain ⟨pp, hpp⟩ := HZ.ch.picks
        refine ⟨⟨⟨hbz.os.trans HZ.ch.kept.os, hbz.tape.trans HZ.ch.kept.tape, hbz.output.trans HZ.ch.kept.output, Nat.le_trans HZ.ch.kept.size hbz.size, fun k hk hR => (hbz.block k (by omega)).trans (HZ.ch.kept.block k hk hR)⟩, pp, hpp.below (hbz.mono (by have := HZ.lD; omega))⟩, HZ.res.block (hbz.block _ (by omega)), HZ.fr.block (hbz.block _ (Nat.lt_succ_self _)), ?_, hl, HZ.lP, HZ.lD⟩
        have u : z1.ownsRow (N + 1) 22 1 (.slice f.a f.n f.c) f.n (ucells r f.n) := HZ.own
        refine World.ownsRow.kept (row := bv.ownBlock) u hgr ?_
        cases e : (Value.slice f.a f.n f.c).ownBlock with
        | none => exact .inl rfl
        | some g => exact .inr (fun e2 => HO.out g e e2.symm)
      obtain ⟨g, hg⟩ : ∃ g : Fr, g = f := ⟨_, rfl⟩
      have HF : Hid (Nx D P w z3 N g r) := by rw [hg]; exact HF0
      have hg4 : g.n ≤ 4 := by rw [hg]; omega
      have hgi : g.id = 0 ∨ (lo < g.id ∧ g.id ≤ lo + 3) := by rw [hg]; exact .inr hid
      have hgk : Hid (KindOk g.k) := by rw [hg]; exact hkk
      have hgz : Hid (SizeOk g.s) := by rw [hg]; exact hss
      have hgs : Hid (∀ q, q < g.n → S (r q) ∨ r q = (g.id : Int)) := by rw [hg]; exact refs_old _ HS
      clear hg h0 h1 h2 Bz HZ BZ ho hgr hbz HF0 hi hz0 hz1 hz2 fz
      obtain ⟨g0, g1, g2, g3, g4, g5, -⟩ := HF.out.fr
      obtain ⟨u0, u1, u2, u3, u4, u5, uz⟩ := HF.out.res
      simp only [Fr.zero] at u0 u1 u2 u3 u4 u5
      have uz0 := uz 0
      have uz1 := uz 1
      have uz2 := uz 2
      have uz3 := uz 3
      have uz4 := uz 4
      have uz5 := uz 5
      have HD : Hid (∀ v, NextIs D P lo S w (.returned (.tuple #[.agg #[.int .u32 (g.id : Int), .int .i64 g.k, .slice g.a g.n g.c, .int .i64 g.s, .int .i64 g.p, .int .i64 g.d], v])) ((((((z3.setCell ⟨w.heap.size, 0, none⟩ (.int .u32 (g.id : Int))).setCell ⟨w.heap.size, 1, none⟩ (.int .i64 g.k)).setCell ⟨w.heap.size, 2, none⟩ (.slice g.a g.n g.c)).setCell ⟨w.heap.size, 3, none⟩ (.int .i64 g.s)).setCell ⟨w.heap.size, 4, none⟩ (.int .i64 g.p)).setCell ⟨w.heap.size, 5, none⟩ (.int .i64 g.d))) := fun v => HF.out.done hg4 hgi hgk.out hgs.out hgz.out rfl
      have HW : Hid (FrAt ((((((z3.setCell ⟨w.heap.size, 0, none⟩ (.int .u32 (g.id : Int))).setCell ⟨w.heap.size, 1, none⟩ (.int .i64 g.k)).setCell ⟨w.heap.size, 2, none⟩ (.slice g.a g.n g.c)).setCell ⟨w.heap.size, 3, none⟩ (.int .i64 g.s)).setCell ⟨w.heap.size, 4, none⟩ (.int .i64 g.p)).setCell ⟨w.heap.size, 5, none⟩ (.int .i64 g.d)) w.heap.size g) := HF.out.res.write g
      clear uz HF HT BO hg4 hgi hgk hgs hgz HS hkk hss hid hn3
      go_wp2_with (at_builtin; refine Go.Lib.wpList_append_run _ rfl (.tmp 152) (.tmp 153) 26 26 rfl _ _ rfl rfl _ _ happ ?_)
      generalize ((((((z3.setCell ⟨w.heap.size, 0, none⟩ (.int .u32 (g.id : Int))).setCell ⟨w.heap.size, 1, none⟩ (.int .i64 g.k)).setCell ⟨w.heap.size, 2, none⟩ (.slice g.a g.n g.c)).setCell ⟨w.heap.size, 3, none⟩ (.int .i64 g.s)).setCell ⟨w.heap.size, 4, none⟩ (.int .i64 g.p)).setCell ⟨w.heap.size, 5, none⟩ (.int .i64 g.d)) = yz at *
      obtain ⟨p0, p1, p2, p3, p4, p5, -⟩ := HW.out
      refine bodyPost_ret (v := .tuple #[.agg #[.int .u32 (g.id : Int), .int .i64 g.k, .slice g.a g.n g.c, .int .i64 g.s, .int .i64 g.p, .int .i64 g.d], v']) ?_ rfl (HD.out _)
      simp [results, Try.results14, go_sem, p0, p1, p2, p3, p4, p5]
    have e2 : ((v7 : Int) == 2) = false := by simp; omega
    by_cases h3 : v7 = 3
    · have e3 : ((v7 : Int) == 3) = true := by simp [h3]
      obtain ⟨z3, ez3⟩ : ∃ x, y9.setCell ⟨N, 0, none⟩ (.int .u32 0) = x := ⟨_, rfl⟩
      have fz0 := fz 0
      obtain ⟨g, hg⟩ : ∃ g : Fr, g = { f with id := 0 } := ⟨_, rfl⟩
      have HF : Hid (Nx D P w z3 N g r) := by rw [hg]; exact ez3 ▸ HT.out.store (HT.out.fr.setId 0) rfl
      have hg4 : g.n ≤ 4 := by rw [hg]; simp only; omega
      have hgi : g.id = 0 ∨ (lo < g.id ∧ g.id ≤ lo + 3) := by rw [hg]; exact .inl rfl
      have hgk : Hid (KindOk g.k) := by rw [hg]; exact hkk
      have hgz : Hid (SizeOk g.s) := by rw [hg]; exact hss
      have hgs : Hid (∀ q, q < g.n → S (r q) ∨ r q = (g.id : Int)) := by rw [hg]; exact refs_old _ HS
      clear hg h0 h1 h2 h3 fz
      obtain ⟨g0, g1, g2, g3, g4, g5, -⟩ := HF.out.fr
      obtain ⟨u0, u1, u2, u3, u4, u5, uz⟩ := HF.out.res
      simp only [Fr.zero] at u0 u1 u2 u3 u4 u5
      have uz0 := uz 0
      have uz1 := uz 1
      have uz2 := uz 2
      have uz3 := uz 3
      have uz4 := uz 4
      have uz5 := uz 5
      have HD : Hid (∀ v, NextIs D P lo S w (.returned (.tuple #[.agg #[.int .u32 (g.id : Int), .int .i64 g.k, .slice g.a g.n g.c, .int .i64 g.s, .int .i64 g.p, .int .i64 g.d], v])) ((((((z3.setCell ⟨w.heap.size, 0, none⟩ (.int .u32 (g.id : Int))).setCell ⟨w.heap.size, 1, none⟩ (.int .i64 g.k)).setCell ⟨w.heap.size, 2, none⟩ (.slice g.a g.n g.c)).setCell ⟨w.heap.size, 3, none⟩ (.int .i64 g.s)).setCell ⟨w.heap.size, 4, none⟩ (.int .i64 g.p)).setCell ⟨w.heap.size, 5, none⟩ (.int .i64 g.d))) := fun v => HF.out.done hg4 hgi hgk.out hgs.out hgz.out rfl
      have HW : Hid (FrAt ((((((z3.setCell ⟨w.heap.size, 0, none⟩ (.int .u32 (g.id : Int))).setCell ⟨w.heap.size, 1, none⟩ (.int .i64 g.k)).setCell ⟨w.heap.size, 2, none⟩ (.slice g.a g.n g.c)).setCell ⟨w.heap.size, 3, none⟩ (.int .i64 g.s)).setCell ⟨w.heap.size, 4, none⟩ (.int .i64 g.p)).setCell ⟨w.heap.size, 5, none⟩ (.int .i64 g.d)) w.heap.size g) := HF.out.res.write g
      clear uz HF HT BO hg4 hgi hgk hgs hgz HS hkk hss hid hn3
      go_wp2
      generalize ((((((z3.setCell ⟨w.heap.size, 0, none⟩ (.int .u32 (g.id : Int))).setCell ⟨w.heap.size, 1, none⟩ (.int .i64 g.k)).setCell ⟨w.heap.size, 2, none⟩ (.slice g.a g.n g.c)).setCell ⟨w.heap.size, 3, none⟩ (.int .i64 g.s)).setCell ⟨w.heap.size, 4, none⟩ (.int .i64 g.p)).setCell ⟨w.heap.size, 5, none⟩ (.int .i64 g.d)) = yz at *
      obtain ⟨p0, p1, p2, p3, p4, p5, -⟩ := HW.out
      refine bodyPost_ret (v := .tuple #[.agg #[.int .u32 (g.id : Int), .int .i64 g.k, .slice g.a g.n g.c, .int .i64 g.s, .int .i64 g.p, .int .i64 g.d], bv]) ?_ rfl (HD.out _)
      simp [results, Try.results14, go_sem, p0, p1, p2, p3, p4, p5]
    · have e3 : ((v7 : Int) == 3) = false := by simp; omega
      obtain ⟨g, hg⟩ : ∃ g : Fr, g = f := ⟨_, rfl⟩
      have HF : Hid (Nx D P w y9 N g r) := by rw [hg]; exact HT.out
      have hg4 : g.n ≤ 4 := by rw [hg]; omega
      have hgi : g.id = 0 ∨ (lo < g.id ∧ g.id ≤ lo + 3) := by rw [hg]; exact .inr hid
      have hgk : Hid (KindOk g.k) := by rw [hg]; exact hkk
      have hgz : Hid (SizeOk g.s) := by rw [hg]; exact hss
      have hgs : Hid (∀ q, q < g.n → S (r q) ∨ r q = (g.id : Int)) := by rw [hg]; exact refs_old _ HS
      subst hg
      clear h0 h1 h2 h3 fz f0 f1 f2 f3 f4 f5 r0 r1 r2 r3 r4 r5 rz
      obtain ⟨g0, g1, g2, g3, g4, g5, -⟩ := HF.out.fr
      obtain ⟨u0, u1, u2, u3, u4, u5, uz⟩ := HF.out.res
      simp only [Fr.zero] at u0 u1 u2 u3 u4 u5
      have uz0 := uz 0
      have uz1 := uz 1
      have uz2 := uz 2
      have uz3 := uz 3
      have uz4 := uz 4
      have uz5 := uz 5
      have HD : Hid (∀ v, NextIs D P lo S w (.returned (.tuple #[.agg #[.int .u32 (g.id : Int), .int .i64 g.k, .slice g.a g.n g.c, .int .i64 g.s, .int .i64 g.p, .int .i64 g.d], v])) ((((((y9.setCell ⟨w.heap.size, 0, none⟩ (.int .u32 (g.id : Int))).setCell ⟨w.heap.size, 1, none⟩ (.int .i64 g.k)).setCell ⟨w.heap.size, 2, none⟩ (.slice g.a g.n g.c)).setCell ⟨w.heap.size, 3, none⟩ (.int .i64 g.s)).setCell ⟨w.heap.size, 4, none⟩ (.int .i64 g.p)).setCell ⟨w.heap.size, 5, none⟩ (.int .i64 g.d))) := fun v => HF.out.done hg4 hgi hgk.out hgs.out hgz.out rfl
      have HW : Hid (FrAt ((((((y9.setCell ⟨w.heap.size, 0, none⟩ (.int .u32 (g.id : Int))).setCell ⟨w.heap.size, 1, none⟩ (.int .i64 g.k)).setCell ⟨w.heap.size, 2, none⟩ (.slice g.a g.n g.c)).setCell ⟨w.heap.size, 3, none⟩ (.int .i64 g.s)).setCell ⟨w.heap.size, 4, none⟩ (.int .i64 g.p)).setCell ⟨w.heap.size, 5, none⟩ (.int .i64 g.d)) w.heap.size g) := HF.out.res.write g
      clear uz HF BO hg4 hgi hgk hgs hgz HS hkk hss hid hn3
      go_wp2
      generalize ((((((y9.setCell ⟨w.heap.size, 0, none⟩ (.int .u32 (g.id : Int))).setCell ⟨w.heap.size, 1, none⟩ (.int .i64 g.k)).setCell ⟨w.heap.size, 2, none⟩ (.slice g.a g.n g.c)).setCell ⟨w.heap.size, 3, none⟩ (.int .i64 g.s)).setCell ⟨w.heap.size, 4, none⟩ (.int .i64 g.p)).setCell ⟨w.heap.size, 5, none⟩ (.int .i64 g.d)) = yz at *
      obtain ⟨p0, p1, p2, p3, p4, p5, -⟩ := HW.out
      refine bodyPost_ret (v := .tuple #[.agg #[.int .u32 (g.id : Int), .int .i64 g.k, .slice g.a g.n g.c, .int .i64 g.s, .int .i64 g.p, .int .i64 g.d], bv]) ?_ rfl (HD.out _)
      simp [results, Try.results14, go_sem, p0, p1, p2, p3, p4, p5]
end Go.Proofs.Ythlidbenhlidjaa

/-
  A row of ints of the call's own, appended to.
-/
namespace Go.Proofs.Ythlidbenhlidjaa
open Go.RowKit Go.Deep

def icells (x : Nat → Int) (k : Nat) : List Value := (List.range k).map fun i => .int .i64 (x i)
theorem icells_len (x : Nat → Int) (k : Nat) : (icells x k).length = k := by simp [icells]
theorem icells_get (x : Nat → Int) (k j : Nat) (v : Value) (h : (icells x k)[j]? = some v) : j < k ∧ v = .int .i64 (x j) := by
  have hj : j < k := by have := (List.getElem?_eq_some_iff.1 h).1; rwa [icells_len] at this
  refine ⟨hj, ?_⟩
  simp [icells, hj] at h
  exact h.symm
theorem icells_one (x : Nat → Int) (k : Nat) : ∀ u ∈ icells x k, u.oneCell' = true := by
  intro u hu
  obtain ⟨i, _, rfl⟩ := List.mem_map.1 hu
  rfl
/-- A row of the call's own, of n numbers x. -/
def Ior (w : World) (base : Nat) (v : Value) (n : Nat) (x : Nat → Int) : Prop := w.ownsRow base 3 1 v n (icells x n)
theorem Ior.nil (w : World) (base : Nat) (x : Nat → Int) : Ior w base (.slice none 0 0) 0 x := ⟨rfl, .inl ⟨rfl, rfl⟩⟩
theorem Ior.any {w : World} {base : Nat} {v : Value} {n : Nat} {x : Nat → Int} (h : Ior w base v n x) :
    ∃ r cap, v = .slice r n cap ∧ n ≤ cap ∧ (∀ g, v.ownBlock = some g → base ≤ g ∧ g < w.heap.size) ∧ NumsAt .i64 w r n x := by
  have hl : ∀ g, v.ownBlock = some g → base ≤ g ∧ g < w.heap.size := fun g e => World.ownsRow.lt h g e
  rcases h.2 with ⟨rfl, rfl⟩ | ⟨g, cap, cur, rfl, hb, hh, hle, hm, hs, ht⟩
  · exact ⟨none, 0, rfl, Nat.le_refl _, hl, fun h => absurd h (by omega)⟩
  · refine ⟨_, cap, rfl, hle, hl, fun _ => ⟨g, 0, rfl, fun i hi => ?_⟩⟩
    have e : cur.toList[i]? = some (.int .i64 (x i)) := by
      have : (cur.toList.take (n * 1))[i]? = cur.toList[i]? := by rw [List.getElem?_take_of_lt (by omega)]
      rw [← this, ht]
      simp [icells, hi]
    simp [World.cell?, hh]
    simpa using e
theorem Ior.kept {R : Nat} {w w' : World} {base : Nat} {v : Value} {n : Nat} {x : Nat → Int} (h : Ior w base v n x) (hk : Kept R w w') (hR : R < base) : Ior w' base v n x := by
  have h' : w.ownsRow base 3 1 v n (icells x n) := h
  refine h'.kept (row := some R) ⟨hk.os, hk.tape, hk.output, hk.size, fun k hk' hne => hk.block k hk' (fun e => hne (by rw [e]))⟩ ?_
  cases e : v.ownBlock with
  | none => exact .inl rfl
  | some g =>
    have := (h'.lt g e).1
    refine .inr fun e2 => ?_
    cases e2
    omega
theorem Ior.grew {w w' : World} {base : Nat} {v : Value} {n : Nat} {x : Nat → Int} (h : Ior w base v n x) (hb : Below w.heap.size w w') : Ior w' base v n x := by
  have h' : w.ownsRow base 3 1 v n (icells x n) := h
  refine h'.kept (row := none) ⟨hb.os, hb.tape, hb.output, hb.size, fun k hk _ => hb.block k hk⟩ ?_
  cases e : v.ownBlock with
  | none => exact .inl rfl
  | some g => exact .inr (by simp)
theorem Ior.base {w : World} {base base' : Nat} {v : Value} {n : Nat} {x : Nat → Int} (h : Ior w base v n x) (hb : base' ≤ base) : Ior w base' v n x := by
  obtain ⟨h1, h2⟩ := h
  refine ⟨h1, ?_⟩
  rcases h2 with h2 | ⟨g, cap, cur, e, hg, h3⟩
  · exact .inl h2
  · exact .inr ⟨g, cap, cur, e, Nat.le_trans hb hg, h3⟩
theorem Try.infoInt : (Try.prog.info? 3).map (fun i => (i.zero, i.size, i.bytes)) = some (some (.int .i64 0), 1, 8) := by kernel_rfl
/-- m more numbers y, from wherever they lie. -/
theorem Ior.push_at {W : World} {base : Nat} {v : Value} {n m c : Nat} {x y : Nat → Int} {a : Option Addr} (ty : TypeId) (h : Ior W base v n x) (hy : NumsAt .i64 W a m y) (h0 : 0 < m) (hn : n + m ≤ 1000000) (hbase : base ≤ W.heap.size) :
    ∃ v' W', (Builtin.append_ #[27, 27] ty #[v, .slice a m c]).run Try.prog W = .ok v' W' ∧ Ior W' base v' (n + m) (fun i => if i < n then x i else y (i - n)) ∧ W.grownBy W' v.ownBlock ∧ (v'.ownBlock = v.ownBlock ∨ v'.ownBlock = some W.heap.size) := by
  obtain ⟨i0, hi, hz0, hz1, hz2⟩ := info_parts Try.infoInt
  obtain ⟨b, o, rfl, hc⟩ := hy h0
  obtain ⟨v', W', hr, hown, hgr, -, hwh⟩ := run_append_own_at (P := Try.prog) W base 27 ty 3 i0 (.int .i64 0) 1 8 Try.underlying27 hi hz0 hz1 hz2 rfl (by decide) v n _ h ⟨b, o, none⟩ m c (icells y m) (by rw [icells_len, Nat.mul_one])
    (fun j u hj => by
      obtain ⟨hjn, rfl⟩ := icells_get _ _ _ _ hj
      rw [Addr.add_mid]
      exact hc j hjn) (icells_one _ _) (by unfold maxLen; omega) (by omega) hbase
  refine ⟨v', W', hr, ?_, hgr, hwh⟩
  have e : icells x n ++ icells y m = icells (fun i => if i < n then x i else y (i - n)) (n + m) := by
    refine List.ext_getElem? fun i => ?_
    by_cases g : i < n
    · rw [List.getElem?_append_left (by rw [icells_len]; exact g)]
      simp [icells, g, show i < n + m by omega]
    · rw [List.getElem?_append_right (by rw [icells_len]; omega), icells_len]
      by_cases q : i < n + m
      · simp [icells, g, q, show i - n < m by omega]
      · simp [icells, q, show ¬ i - n < m by omega]
  show W'.ownsRow _ _ _ _ _ _
  rw [← e]
  exact hown
theorem Ior.push {W : World} {base : Nat} {v : Value} {n m c : Nat} {x y : Nat → Int} {a : Option Addr} (ty : TypeId) (h : Ior W base v n x) (hy : NumsAt .i64 W a m y) (h0 : 0 < m) (hn : n + m ≤ 1000000) (hbase : base ≤ W.heap.size) :
    ∃ v' W', (Builtin.append_ #[27, 27] ty #[v, .slice a m c]).run Try.prog W = .ok v' W' ∧ Ior W' base v' (n + m) (fun i => if i < n then x i else y (i - n)) ∧ W.grownBy W' v.ownBlock := by
  obtain ⟨v', W', h1, h2, h3, -⟩ := h.push_at ty hy h0 hn hbase
  exact ⟨v', W', h1, h2, h3⟩
/-- What has grown turned nothing but its own. -/
theorem Ior.grown {W W' : World} {base : Nat} {v : Value} {n : Nat} {x : Nat → Int} (h : Ior W base v n x) (hg : W.grownBy W' v.ownBlock) (hb : base ≤ W.heap.size) : Below base W W' :=
  ⟨hg.os, hg.tape, hg.output, hg.size, fun k hk => hg.block k (by omega) (fun e => by have := (World.ownsRow.lt h k e.symm).1; omega)⟩
end Go.Proofs.Ythlidbenhlidjaa

/-
  A frame's bytes out of numbers: a row of bytes. Rows of ints.
-/
namespace Go.Proofs.Ythlidbenhlidjaa
open Go.RowKit Go.Deep

theorem Ior.congr {w : World} {base : Nat} {v : Value} {n : Nat} {x y : Nat → Int} (h : Ior w base v n x) (e : ∀ i, i < n → x i = y i) : Ior w base v n y := by
  have h' : w.ownsRow base 3 1 v n (icells x n) := h
  have e2 : icells x n = icells y n := List.map_congr_left fun i hi => by rw [e i (List.mem_range.1 hi)]
  rw [e2] at h'
  exact h'
/-- What Body answers: n bytes. -/
def BodyBs (D P n : Nat) (w : World) (e : Ending) (w' : World) : Prop := Chose D P w w' ∧ ∃ x, e = .returned (.slice (some ⟨w.heap.size, 0, none⟩) n n) ∧ BytesAt w' (some ⟨w.heap.size, 0, none⟩) n x
set_option maxRecDepth 100000 in
set_option maxHeartbeats 1000000 in
theorem body_bytes (D P p n : Nat) (w : World) (h : Picks D w P p) (hD : D ≤ w.heap.size) (hn : n ≤ 1000) :
    Calls Try.prog 15 #[.pointer (some ⟨P, 0, none⟩), .int .i64 (n : Int)] w (BodyBs D P n w) := by
  have B1 := (Below.refl w.heap.size w).alloc (Nat.le_refl _) (.cells (madeCells #[.int .u8 0] n) 5)
  have HC : Hid (Chose D P w (w.alloc (.cells (madeCells #[.int .u8 0] n) 5))) := ⟨Kept.of_below B1, p, h.grew B1⟩
  have HR : Hid (∃ f, (∀ i, f i < 256) ∧ (w.alloc (.cells (madeCells #[.int .u8 0] n) 5)).rowIs w.heap.size 5 n (byteAt f)) := ⟨fun _ => 0, fun _ => (by decide : (0 : Nat) < 256), World.rowIs_made w (.int .u8 0) n 5⟩
  have lP := h.lt
  have hmk := fun W => make_u8s n W hn
  have HP : Hid (P ≠ w.heap.size) := by show P ≠ w.heap.size; omega
  clear B1 h
  go_enter Try.func15, Try.ntmps15
  go_wp2_with fail
  generalize w.alloc (.cells (madeCells #[.int .u8 0] n) 5) = w1 at *
  go_loopw [6] (fun i wr => ∃ k : Nat, k ≤ n ∧ i = .int .i64 k ∧ Hid (Chose D P w wr) ∧ Hid (∃ f, (∀ i, f i < 256) ∧ wr.rowIs w.heap.size 5 n (byteAt f))) (fun i _ => n - (intOf i).toNat)
  case atStart => exact ⟨0, Nat.zero_le _, rfl, HC, HR⟩
  case round =>
    clear HC HR
    obtain ⟨k, hk, rfl, hc, hr⟩ := hrel
    by_cases hkn : k < n
    · have i1 : (k : Int) < (n : Int) := by omega
      obtain ⟨p', hp⟩ := hc.out.picks
      go_wp2_with fail
      refine (num_pk D P p' 256 _ hp (by decide) (by decide)).mono ?_
      rintro e w2 ⟨c2, v, rfl, hv⟩
      obtain ⟨f, hf0, hf⟩ := hr.out
      have hf := hf.of_block (c2.kept.block w.heap.size hf.lt (Ne.symm HP.out))
      have q0 : w2.cell? ⟨w.heap.size, k, none⟩ = some (.int .u8 (f k : Int)) := hf.cell (i := k) hkn
      have q1 := hf.frozen k
      have hc2 := hc.out.trans c2
      have HC : Hid (∀ v, Chose D P w (w2.setCell ⟨w.heap.size, k, none⟩ v)) := fun v => hc2.setNew (Nat.le_refl _) hD v
      have HR : Hid (∃ f, (∀ i, f i < 256) ∧ (w2.setCell ⟨w.heap.size, k, none⟩ (.int .u8 (v : Int))).rowIs w.heap.size 5 n (byteAt f)) := by
        refine ⟨fun i => if i = k then v else f i, fun i => ?_, (hf.set k _).congr fun i _ => ?_⟩
        · show (if i = k then v else f i) < 256
          by_cases e : i = k
          · rw [if_pos e]; omega
          · rw [if_neg e]; exact hf0 i
        · show (if i = k then Value.int .u8 (v : Int) else .int .u8 (f i : Int)) = .int .u8 ((if i = k then v else f i : Nat) : Int)
          by_cases e : i = k
          · rw [if_pos e, if_pos e]
          · rw [if_neg e, if_neg e]
      clear hf hf0 hc2 c2 hc hr hp
      go_wp2_with fail
      go_roundw
      case rel => exact ⟨k + 1, by omega, by go_num, HC.out _, HR⟩
      case measure => simp [intOf]; omega
    · obtain rfl : k = n := by omega
      go_wp2
      go_ret
      obtain ⟨f, hf0, hf⟩ := hr.out
      exact ⟨hc.out, f, rfl, row_bytes' hf (fun _ _ => rfl) (fun i _ => hf0 i)⟩
end Go.Proofs.Ythlidbenhlidjaa

/-
  Two new blocks; a new row of noughts.
-/
namespace Go.Proofs.Ythlidbenhlidjaa
open Go.RowKit Go.Deep

theorem below_two (w : World) (o1 o2 : Obj) : Below w.heap.size w ((w.alloc o1).alloc o2) := ((Below.refl _ _).alloc (Nat.le_refl _) _).alloc (by simp) _
theorem zeros_at (w : World) (n : Nat) : BytesAt (w.alloc (.cells (madeCells #[.int .u8 0] n) 5)) (some ⟨w.heap.size, 0, none⟩) n (fun _ => 0) := by
  have hr := World.rowIs_made w (.int .u8 0) n 5
  exact ⟨fun _ => ⟨_, 0, rfl, fun i hi => by rw [Nat.zero_add]; exact hr.cell hi⟩, fun _ _ => by decide⟩
end Go.Proofs.Ythlidbenhlidjaa

/-
  Two lists of rows that grow side by side, in memory of the call's own; lists of rows that are written in place.
-/
namespace Go.Proofs.Ythlidbenhlidjaa
open Go.RowKit Go.Deep

/-- Two lists behind ja and jb rounds. -/
structure Cp (w0 w : World) (va vb : Value) (ja jb k size : Nat) (V Y : Nat → Nat → Nat) : Prop where
  a : Own w w0.heap.size va ja k V
  b : Own w w0.heap.size vb jb size Y
  ne : ∀ g, va.ownBlock = some g → vb.ownBlock ≠ some g
  below : Below w0.heap.size w0 w
theorem Cp.grew {w0 w w' : World} {va vb : Value} {ja jb k size : Nat} {V Y : Nat → Nat → Nat} (h : Cp w0 w va vb ja jb k size V Y) (hb : Below w.heap.size w w') : Cp w0 w' va vb ja jb k size V Y :=
  ⟨h.a.grew hb, h.b.grew hb, h.ne, h.below.trans (hb.mono h.below.size)⟩
theorem Cp.turn {w0 w : World} {va vb : Value} {ja jb k size : Nat} {V Y : Nat → Nat → Nat} (h : Cp w0 w va vb ja jb k size V Y) : Cp w0 w vb va jb ja size k Y V :=
  ⟨h.b, h.a, fun g e1 e2 => h.ne g e2 e1, h.below⟩

theorem Cp.push {w0 W : World} {va vb : Value} {ja jb k size : Nat} {V Y : Nat → Nat → Nat} (h : Cp w0 W va vb ja jb k size V Y) (q g c : Nat) (ty : TypeId) (hc : W.cell? ⟨q, 0, none⟩ = some (.slice (some ⟨g, 0, none⟩) k c)) (hB : BytesAt W (some ⟨g, 0, none⟩) k (V ja)) (hk : 0 < k) (hs : 0 < size) (hj : ja ≤ 1000) :
    ∃ va' W', (Builtin.append_ #[77, 77] ty #[va, .slice (some ⟨q, 0, none⟩) 1 1]).run Try.prog W = .ok va' W' ∧ Cp w0 W' va' vb (ja + 1) jb k size V Y := by
  obtain ⟨i0, hi, hz0, hz1, hz2⟩ := info_parts Try.infoRow
  obtain ⟨xs, ho, h0, hx⟩ := h.a
  have hbase := h.below.size
  obtain ⟨va', W', hr, hown, hgr, hnil, hat⟩ := run_append_own_at (P := Try.prog) W w0.heap.size 77 ty 26 i0 (.slice none 0 0) 1 24 Try.underlying77 hi hz0 hz1 hz2 rfl (by decide) va ja xs ho ⟨q, 0, none⟩ 1 1 [.slice (some ⟨g, 0, none⟩) k c] rfl
    (fun j u hj => by
      cases j with
      | zero => cases hj; exact hc
      | succ j => simp at hj) (by intro u hu; simp at hu; subst hu; rfl) (by unfold maxLen; omega) (by omega) hbase
  have hlt := ho.lt
  refine ⟨va', W', hr, ⟨⟨_, hown, fun e => absurd e (by omega), fun i hi => ?_⟩, ?_, ?_, h.below.grown hgr hbase (fun k' e => (hlt k' e).1)⟩⟩
  · by_cases e : i = ja
    · subst e
      refine ⟨g, c, ?_, hB.grown hgr (h.a.apart hB hk)⟩
      have hl := ho.1
      rw [Nat.mul_one] at hl
      rw [List.getElem?_append_right (by omega), hl, Nat.sub_self]
      rfl
    · obtain ⟨b, cc, h1, h2⟩ := hx i (by omega)
      have hl := ho.1
      rw [Nat.mul_one] at hl
      exact ⟨b, cc, by rw [List.getElem?_append_left (by omega)]; exact h1, h2.grown hgr (h.a.apart h2 hk)⟩
  · obtain ⟨ys, po, p0, px⟩ := h.b
    refine ⟨ys, po.kept hgr ?_, fun hj g' e => ?_, fun i hi => ?_⟩
    rotate_left
    · rw [World.cell?_of_block (w := W) (hgr.block g' (po.lt g' e).2 (fun e2 => h.ne g' e2.symm e))]
      exact p0 hj g' e
    rotate_left
    · cases e : vb.ownBlock with
      | none => exact .inl rfl
      | some gb =>
        refine .inr fun e2 => ?_
        exact h.ne gb e2.symm e
    · obtain ⟨b, cc, h1, h2⟩ := px i hi
      exact ⟨b, cc, h1, h2.grown hgr (h.a.apart h2 hs)⟩
  · intro g' e1 e2
    obtain ⟨ys, po, -, -⟩ := h.b
    rcases hat with e | e
    · rw [e] at e1; exact h.ne g' e1 e2
    · rw [e] at e1
      have := (po.lt g' e2).2
      have := Option.some.inj e1
      omega

end Go.Proofs.Ythlidbenhlidjaa

/-
  How many places have a row. Plain mathematics.
-/
namespace Go.Proofs.Ythlidbenhlidjaa

/-- How many places below k have a row. -/
def rankTo (S : Nat → Option (Nat → Nat)) : Nat → Nat
  | 0 => 0
  | k + 1 => rankTo S k + (if (S k).isSome then 1 else 0)
theorem rankTo_le (S : Nat → Option (Nat → Nat)) (k : Nat) : rankTo S k ≤ k := by
  induction k with
  | zero => exact Nat.le_refl _
  | succ k ih => unfold rankTo; split <;> omega
theorem rank_full (S : Nat → Option (Nat → Nat)) : ∀ k, rankTo S k = k → ∀ i, i < k → ∃ r, S i = some r := by
  intro k
  induction k with
  | zero => intro _ i hi; omega
  | succ k ih =>
    intro h i hi
    have hl := rankTo_le S k
    unfold rankTo at h
    cases hS : S k with
    | none => rw [hS] at h; simp at h; omega
    | some r =>
      rw [hS] at h
      simp at h
      by_cases e : i = k
      · subst e; exact ⟨r, hS⟩
      · exact ih h i (by omega)
end Go.Proofs.Ythlidbenhlidjaa

/-
  Rows over the field of 256: what sums of multiples are, rows in steps. Plain mathematics.
-/
namespace Go.Proofs.Ythlidbenhlidjaa

/-- Each place holds a byte. -/
def Byt (v : Nat → Nat) : Prop := ∀ j, v j < 256
/-- Sums of multiples of the rows in G. -/
inductive Sp (G : (Nat → Nat) → Prop) : (Nat → Nat) → Prop
  | zero : Sp G (fun _ => 0)
  | step {v g : Nat → Nat} {c : Nat} : Sp G v → G g → c < 256 → Sp G (addUp v g c)

theorem mul_one' (a : Nat) (h : a < 256) : Gf.mul 1 a = a := by rw [Gf.mul_comm]; exact Gf.mul_one a h
theorem addUp_byt {v g : Nat → Nat} {c : Nat} (hv : Byt v) : Byt (addUp v g c) := fun j => Gf.xor_lt _ _ (hv j) (Gf.mul_lt _ _)
theorem Sp.byt {G : (Nat → Nat) → Prop} {v : Nat → Nat} (h : Sp G v) : Byt v := by
  induction h with
  | zero => exact fun _ => Nat.zero_lt_succ _
  | step _ _ _ ih => exact addUp_byt ih
theorem addUp_add (v u g : Nat → Nat) (c d : Nat) (hc : c < 256) (hu : Byt u) : addUp v (addUp u g d) c = addUp (addUp v u c) g (Gf.mul c d) := by
  funext j
  unfold addUp
  rw [Gf.mul_xor c _ _ hc (hu j) (Gf.mul_lt _ _), Gf.mul_assoc, Nat.xor_assoc]
theorem addUp_zero (v : Nat → Nat) (c : Nat) : addUp v (fun _ => 0) c = v := by
  funext j; unfold addUp; rw [Gf.mul_zero, Nat.xor_zero]
theorem Sp.add {G : (Nat → Nat) → Prop} {v u : Nat → Nat} {c : Nat} (hv : Sp G v) (hu : Sp G u) (hc : c < 256) : Sp G (addUp v u c) := by
  induction hu with
  | zero => rw [addUp_zero]; exact hv
  | step h1 h2 h3 ih => rw [addUp_add _ _ _ _ _ hc h1.byt]; exact Sp.step ih h2 (Gf.mul_lt _ _)
theorem addUp_one (g : Nat → Nat) (hg : Byt g) : addUp (fun _ => 0) g 1 = g := by
  funext j; unfold addUp; rw [mul_one' _ (hg j), Nat.zero_xor]
theorem Sp.gen {G : (Nat → Nat) → Prop} {g : Nat → Nat} (hg : G g) (hb : Byt g) : Sp G g := by
  have := Sp.step (c := 1) (Sp.zero (G := G)) hg (by decide)
  rwa [addUp_one g hb] at this
theorem Sp.mono {G H : (Nat → Nat) → Prop} {v : Nat → Nat} (h : Sp G v) (hG : ∀ g, G g → Sp H g) : Sp H v := by
  induction h with
  | zero => exact Sp.zero
  | step _ h2 h3 ih => exact ih.add (hG _ h2) h3
/-- What holds of 0 and goes over sums holds of all. -/
theorem Sp.all {G : (Nat → Nat) → Prop} {v : Nat → Nat} (h : Sp G v) (p : (Nat → Nat) → Prop) (h0 : p (fun _ => 0)) (hs : ∀ v g c, c < 256 → Byt v → p v → G g → p (addUp v g c)) : p v := by
  induction h with
  | zero => exact h0
  | step h1 h2 h3 ih => exact hs _ _ _ h3 h1.byt ih h2
theorem addUp_back (v u : Nat → Nat) (c : Nat) : addUp (addUp v u c) u c = v := by
  funext j; unfold addUp; rw [Nat.xor_assoc, Nat.xor_self, Nat.xor_zero]

/-- The rows that are there. -/
def Rw (S : Nat → Option (Nat → Nat)) (k : Nat) (g : Nat → Nat) : Prop := ∃ i, i < k ∧ S i = some g
/-- Rows in steps, each with 1 at its place, 0 ahead of it and where another leads. -/
structure Red (S : Nat → Option (Nat → Nat)) (k : Nat) : Prop where
  byt : ∀ i r, i < k → S i = some r → Byt r
  one : ∀ i r, i < k → S i = some r → r i = 1
  off : ∀ i r, i < k → S i = some r → ∀ i' r', i' < k → i' ≠ i → S i' = some r' → r i' = 0
  low : ∀ i r, i < k → S i = some r → ∀ j, j < i → r j = 0
theorem Red.empty (k : Nat) : Red (fun _ => none) k := ⟨fun _ _ _ h => (nomatch h), fun _ _ _ h => (nomatch h), fun _ _ _ h => (nomatch h), fun _ _ _ h => (nomatch h)⟩

/-- The sum of the rows, each as often as v has it at its place. -/
def comb (S : Nat → Option (Nat → Nat)) (v : Nat → Nat) (j : Nat) : Nat → Nat
  | 0 => 0
  | i + 1 => comb S v j i ^^^ (match S i with | none => 0 | some r => Gf.mul (v i) (r j))
theorem comb_none (S : Nat → Option (Nat → Nat)) (v : Nat → Nat) (j n : Nat) (h : ∀ i r, i < n → S i = some r → Gf.mul (v i) (r j) = 0) : comb S v j n = 0 := by
  induction n with
  | zero => rfl
  | succ n ih =>
    unfold comb
    rw [ih fun i r hi => h i r (by omega)]
    cases hS : S n with
    | none => show 0 ^^^ 0 = 0; decide
    | some r => show 0 ^^^ Gf.mul (v n) (r j) = 0; rw [h n r (by omega) hS]; rfl
theorem comb_add (S : Nat → Option (Nat → Nat)) (v g : Nat → Nat) (c j n : Nat) (hv : Byt v) (hb : ∀ i r, i < n → S i = some r → Byt r) :
    comb S (addUp v g c) j n = comb S v j n ^^^ comb S (fun i => Gf.mul c (g i)) j n := by
  induction n with
  | zero => show 0 = 0 ^^^ 0; decide
  | succ n ih =>
    unfold comb
    rw [ih fun i r hi => hb i r (by omega)]
    cases hS : S n with
    | none => show _ ^^^ 0 = (_ ^^^ 0) ^^^ (_ ^^^ 0); rw [Nat.xor_zero, Nat.xor_zero, Nat.xor_zero]
    | some r =>
      show _ ^^^ Gf.mul (addUp v g c n) (r j) = (_ ^^^ Gf.mul (v n) (r j)) ^^^ (_ ^^^ Gf.mul (Gf.mul c (g n)) (r j))
      unfold addUp
      rw [Gf.xor_mul _ _ _ (hv n) (Gf.mul_lt _ _) (hb n r (by omega) hS j), Gf.xor4]
/-- Only the row at i counts. -/
theorem comb_single (S : Nat → Option (Nat → Nat)) (v : Nat → Nat) (j i n : Nat) (r : Nat → Nat) (hi : i < n) (hS : S i = some r) (h : ∀ i' r', i' < n → i' ≠ i → S i' = some r' → v i' = 0) : comb S v j n = Gf.mul (v i) (r j) := by
  induction n with
  | zero => omega
  | succ n ih =>
    unfold comb
    by_cases e : i = n
    · subst e
      rw [comb_none S v j i fun i' r' h1 h2 => by rw [h i' r' (by omega) (by omega) h2, Gf.zero_mul], hS]
      exact Nat.zero_xor _
    · rw [ih (by omega) fun i' r' h1 => h i' r' (by omega)]
      cases hSn : S n with
      | none => exact Nat.xor_zero _
      | some r' => show _ ^^^ Gf.mul (v n) (r' j) = _; rw [h n r' (by omega) (Ne.symm e) hSn, Gf.zero_mul, Nat.xor_zero]
/-- A sum of multiples is told by what it has where rows lead. -/
theorem Sp.comb {S : Nat → Option (Nat → Nat)} {k : Nat} (hR : Red S k) {v : Nat → Nat} (h : Sp (Rw S k) v) : ∀ j, v j = Proofs.Ythlidbenhlidjaa.comb S v j k := by
  refine h.all (fun v => ∀ j, v j = Proofs.Ythlidbenhlidjaa.comb S v j k) (fun j => ?_) (fun v g c hc hv ih hg j => ?_)
  · rw [comb_none S _ j k fun i r _ _ => Gf.zero_mul _]
  · obtain ⟨i, hi, hS⟩ := hg
    rw [comb_add S v g c j k hv hR.byt, ← ih j]
    rw [comb_single S _ j i k g hi hS fun i' r' h1 h2 h3 => by rw [hR.off i g hi hS i' r' h1 h2 h3, Gf.mul_zero]]
    rw [hR.one i g hi hS, Gf.mul_one c hc]
    rfl
/-- One that is 0 where rows lead is 0. -/
theorem Sp.zero_of {S : Nat → Option (Nat → Nat)} {k : Nat} (hR : Red S k) {v : Nat → Nat} (h : Sp (Rw S k) v) (hz : ∀ i r, i < k → S i = some r → v i = 0) : ∀ j, v j = 0 := by
  intro j
  rw [h.comb hR j]
  exact comb_none S v j k fun i r hi hS => by rw [hz i r hi hS, Gf.zero_mul]
/-- One that leads at a place below k leads where a row does. -/
theorem Sp.leads {S : Nat → Option (Nat → Nat)} {k : Nat} (hR : Red S k) {v : Nat → Nat} (h : Sp (Rw S k) v) (i : Nat) (hv : v i ≠ 0) (hl : ∀ j, j < i → v j = 0) : (S i).isSome = true := by
  cases hS : S i with
  | some r => rfl
  | none =>
    exfalso
    apply hv
    rw [h.comb hR i]
    refine comb_none S v i k fun i' r hi' hS' => ?_
    by_cases e : i' < i
    · rw [hl i' e, Gf.zero_mul]
    · have hne : i' ≠ i := fun e => by rw [e, hS] at hS'; cases hS'
      rw [hR.low i' r hi' hS' i (by omega), Gf.mul_zero]
/-- Rows in steps that come to the same sums lead at the same places. -/
theorem Red.same {S T : Nat → Option (Nat → Nat)} {k : Nat} (hS : Red S k) (hT : Red T k) (h : ∀ g, Rw S k g → Sp (Rw T k) g) (h' : ∀ g, Rw T k g → Sp (Rw S k) g) (i : Nat) (hi : i < k) : (S i).isSome = (T i).isSome := by
  have go : ∀ {S T : Nat → Option (Nat → Nat)}, Red S k → Red T k → (∀ g, Rw S k g → Sp (Rw T k) g) → (S i).isSome = true → (T i).isSome = true := by
    intro S T hS hT h hi'
    obtain ⟨r, hr⟩ := Option.isSome_iff_exists.1 hi'
    exact (h r ⟨i, hi, hr⟩).leads hT i (by rw [hS.one i r hi hr]; decide) (hS.low i r hi hr)
  cases h1 : (S i).isSome with
  | true => exact (go hS hT h h1).symm
  | false =>
    cases h2 : (T i).isSome with
    | false => rfl
    | true => exact absurd (go hT hS h' h2) (by rw [h1]; decide)
theorem rank_same {S T : Nat → Option (Nat → Nat)} (k : Nat) (h : ∀ i, i < k → (S i).isSome = (T i).isSome) : rankTo S k = rankTo T k := by
  induction k with
  | zero => rfl
  | succ k ih => unfold rankTo; rw [ih fun i hi => h i (by omega), h k (by omega)]
end Go.Proofs.Ythlidbenhlidjaa

/-
  The document's Find and Check.
-/
import Derived.Test.YtclbcggbnbimaaaFcf
import Derived.Test.YtclbcggbnbimaaaRct
namespace Go.Proofs.Ytclbcggbnbimaaa
open Go.RowKit Go.Deep

theorem FrAt.write {w : World} {B : Nat} {f : Fr} (h : FrAt w B f) (g : Fr) : FrAt ((((((w.setCell ⟨B, 0, none⟩ (.int .u32 (g.id : Int))).setCell ⟨B, 1, none⟩ (.int .i64 g.k)).setCell ⟨B, 2, none⟩ (.slice g.a g.n g.c)).setCell ⟨B, 3, none⟩ (.int .i64 g.s)).setCell ⟨B, 4, none⟩ (.int .i64 g.p)).setCell ⟨B, 5, none⟩ (.int .i64 g.d)) B g := by
  have s0 := World.cell?_setCell_same w ⟨B, 0, none⟩ (.int .u32 (g.id : Int)) h.c0
  have o : ∀ (w : World) (i j : Nat) (v x : Value), i ≠ j → w.cell? ⟨B, j, none⟩ = some x → (w.setCell ⟨B, i, none⟩ v).cell? ⟨B, j, none⟩ = some x := fun w i j v x hij hx => (World.cell?_setCell_other _ _ _ _ (fun e => hij (Addr.mk.inj e).2.1)).trans hx
  have t : ∀ (w : World) (i : Nat) (v x : Value), w.cell? ⟨B, i, none⟩ = some x → (w.setCell ⟨B, i, none⟩ v).cell? ⟨B, i, none⟩ = some v := fun w i v x hx => World.cell?_setCell_same _ _ _ hx
  refine ⟨?_, ?_, ?_, ?_, ?_, ?_, fun i => by simp only [World.frozen?_setCell]; exact h.frz i⟩
  · exact o _ 5 0 _ _ (by decide) (o _ 4 0 _ _ (by decide) (o _ 3 0 _ _ (by decide) (o _ 2 0 _ _ (by decide) (o _ 1 0 _ _ (by decide) (t _ 0 _ _ h.c0)))))
  · exact o _ 5 1 _ _ (by decide) (o _ 4 1 _ _ (by decide) (o _ 3 1 _ _ (by decide) (o _ 2 1 _ _ (by decide) (t _ 1 _ _ (o _ 0 1 _ _ (by decide) h.c1)))))
  · exact o _ 5 2 _ _ (by decide) (o _ 4 2 _ _ (by decide) (o _ 3 2 _ _ (by decide) (t _ 2 _ _ (o _ 1 2 _ _ (by decide) (o _ 0 2 _ _ (by decide) h.c2)))))
  · exact o _ 5 3 _ _ (by decide) (o _ 4 3 _ _ (by decide) (t _ 3 _ _ (o _ 2 3 _ _ (by decide) (o _ 1 3 _ _ (by decide) (o _ 0 3 _ _ (by decide) h.c3)))))
  · exact o _ 5 4 _ _ (by decide) (t _ 4 _ _ (o _ 3 4 _ _ (by decide) (o _ 2 4 _ _ (by decide) (o _ 1 4 _ _ (by decide) (o _ 0 4 _ _ (by decide) h.c4)))))
  · exact t _ 5 _ _ (o _ 4 5 _ _ (by decide) (o _ 3 5 _ _ (by decide) (o _ 2 5 _ _ (by decide) (o _ 1 5 _ _ (by decide) (o _ 0 5 _ _ (by decide) h.c5)))))
theorem below_write {w w' : World} {B G : Nat} (h : Below G w w') (hG : G ≤ B) (g : Fr) : Below G w ((((((w'.setCell ⟨B, 0, none⟩ (.int .u32 (g.id : Int))).setCell ⟨B, 1, none⟩ (.int .i64 g.k)).setCell ⟨B, 2, none⟩ (.slice g.a g.n g.c)).setCell ⟨B, 3, none⟩ (.int .i64 g.s)).setCell ⟨B, 4, none⟩ (.int .i64 g.p)).setCell ⟨B, 5, none⟩ (.int .i64 g.d)) :=
  (((((h.setCell (p := ⟨B, 0, none⟩) hG _).setCell (p := ⟨B, 1, none⟩) hG _).setCell (p := ⟨B, 2, none⟩) hG _).setCell (p := ⟨B, 3, none⟩) hG _).setCell (p := ⟨B, 4, none⟩) hG _).setCell (p := ⟨B, 5, none⟩) hG _
/-- What Find answers. -/
def FindIs (w : World) (m : Nat) (K : Nat → Fr) (v : Int) (e : Ending) (w' : World) : Prop :=
  Below w.heap.size w w' ∧ ∃ (g : Fr) (b : Bool), e = .returned (.tuple #[g.val, .bool b]) ∧ ((b = true ∧ ∃ j, j < m ∧ ((K j).id : Int) = v ∧ g = K j ∧ ∀ q, q < j → ((K q).id : Int) ≠ v) ∨ (b = false ∧ ∀ j, j < m → ((K j).id : Int) ≠ v))
theorem FindIs.mk {w w' : World} {m : Nat} {K : Nat → Fr} {v : Int} {g : Fr} {b : Bool} (hb : Below w.heap.size w w') (h : (b = true ∧ ∃ j, j < m ∧ ((K j).id : Int) = v ∧ g = K j ∧ ∀ q, q < j → ((K q).id : Int) ≠ v) ∨ (b = false ∧ ∀ j, j < m → ((K j).id : Int) ≠ v)) :
    FindIs w m K v (.returned (.tuple #[.agg #[.int .u32 (g.id : Int), .int .i64 g.k, .slice g.a g.n g.c, .int .i64 g.s, .int .i64 g.p, .int .i64 g.d], .bool b])) w' := ⟨hb, g, b, rfl, h⟩
def Fr.zero : Fr := ⟨0, 0, none, 0, 0, 0, 0, 0⟩

set_option maxRecDepth 100000 in
set_option maxHeartbeats 1000000 in
theorem rfind_any (a : Option Addr) (m c : Nat) (K : Nat → Fr) (v : Int) (w : World) (hm : m ≤ 1000) (HK : Hid (FrsAt w a m K)) :
    Calls Try.prog 19 #[.slice a m c, .int .u32 v] w (FindIs w m K v) := by
  have B1 : Hid (Below w.heap.size w (w.alloc (.cells #[.int .u32 0, .int .i64 0, .slice none 0 0, .int .i64 0, .int .i64 0, .int .i64 0] 31))) := box_below w _
  have F1 : Hid (FrAt (w.alloc (.cells #[.int .u32 0, .int .i64 0, .slice none 0 0, .int .i64 0, .int .i64 0, .int .i64 0] 31)) w.heap.size Fr.zero) := FrAt.made w _ Fr.zero
  have HK1 : Hid (FrsAt (w.alloc (.cells #[.int .u32 0, .int .i64 0, .slice none 0 0, .int .i64 0, .int .i64 0, .int .i64 0] 31)) a m K) := HK.out.grew B1.out
  clear HK
  go_enter Try.func19, Try.ntmps19
  go_wp2_with fail
  generalize w.alloc (.cells #[.int .u32 0, .int .i64 0, .slice none 0 0, .int .i64 0, .int .i64 0, .int .i64 0] 31) = w1 at *
  go_loopw [6] (fun i wr => ∃ k : Nat, k ≤ m ∧ i = .int .i64 k ∧ Hid (∀ j, j < k → ((K j).id : Int) ≠ v) ∧ wr = w1) (fun i _ => m - (intOf i).toNat)
  case atStart => exact ⟨0, Nat.zero_le _, rfl, fun j hj => absurd hj (by omega), rfl⟩
  case round =>
    obtain ⟨k, hk, rfl, hl, rfl⟩ := hrel
    obtain ⟨f0, f1, f2, f3, f4, f5, fz⟩ := F1.out
    have z0 := fz 0
    have z1 := fz 1
    have z2 := fz 2
    have z3 := fz 3
    have z4 := fz 4
    have z5 := fz 5
    clear fz
    simp only [Fr.zero] at f0 f1 f2 f3 f4 f5
    by_cases hkn : k < m
    · obtain ⟨b, o, rfl⟩ := HK1.out.addr (by omega)
      obtain ⟨q0, q1, q2, q3, q4, q5⟩ := HK1.out.at k hkn
      have i1 : (k : Int) < (m : Int) := by omega
      by_cases hv : ((K k).id : Int) = v
      · have HW : Hid (FrAt ((((((wr.setCell ⟨w.heap.size, 0, none⟩ (.int .u32 ((K k).id : Int))).setCell ⟨w.heap.size, 1, none⟩ (.int .i64 (K k).k)).setCell ⟨w.heap.size, 2, none⟩ (.slice (K k).a (K k).n (K k).c)).setCell ⟨w.heap.size, 3, none⟩ (.int .i64 (K k).s)).setCell ⟨w.heap.size, 4, none⟩ (.int .i64 (K k).p)).setCell ⟨w.heap.size, 5, none⟩ (.int .i64 (K k).d)) w.heap.size (K k)) := F1.out.write (K k)
        have HB : Hid (Below w.heap.size w ((((((wr.setCell ⟨w.heap.size, 0, none⟩ (.int .u32 ((K k).id : Int))).setCell ⟨w.heap.size, 1, none⟩ (.int .i64 (K k).k)).setCell ⟨w.heap.size, 2, none⟩ (.slice (K k).a (K k).n (K k).c)).setCell ⟨w.heap.size, 3, none⟩ (.int .i64 (K k).s)).setCell ⟨w.heap.size, 4, none⟩ (.int .i64 (K k).p)).setCell ⟨w.heap.size, 5, none⟩ (.int .i64 (K k).d))) := below_write B1.out (Nat.le_refl _) (K k)
        have HF : Hid (∃ j, j < m ∧ ((K j).id : Int) = v ∧ K k = K j ∧ ∀ q, q < j → ((K q).id : Int) ≠ v) := ⟨k, hkn, hv, rfl, hl.out⟩
        have e1 : (((K k).id : Int) == v) = true := by simp [hv]
        clear hl hv
        generalize K k = g at *
        go_wp2
        generalize ((((((wr.setCell ⟨w.heap.size, 0, none⟩ (.int .u32 (g.id : Int))).setCell ⟨w.heap.size, 1, none⟩ (.int .i64 g.k)).setCell ⟨w.heap.size, 2, none⟩ (.slice g.a g.n g.c)).setCell ⟨w.heap.size, 3, none⟩ (.int .i64 g.s)).setCell ⟨w.heap.size, 4, none⟩ (.int .i64 g.p)).setCell ⟨w.heap.size, 5, none⟩ (.int .i64 g.d)) = w2 at *
        obtain ⟨p0, p1, p2, p3, p4, p5, -⟩ := HW.out
        refine bodyPost_ret (v := .tuple #[.agg #[.int .u32 (g.id : Int), .int .i64 g.k, .slice g.a g.n g.c, .int .i64 g.s, .int .i64 g.p, .int .i64 g.d], .bool true]) ?_ rfl (FindIs.mk HB.out (.inl ⟨rfl, HF.out⟩))
        simp [results, Try.results19, go_sem, p0, p1, p2, p3, p4, p5]
      · have HL : Hid (∀ j, j < k + 1 → ((K j).id : Int) ≠ v) := fun j hj => by
          by_cases e : j = k
          · subst e; exact hv
          · exact hl.out j (by omega)
        have e1 : (((K k).id : Int) == v) = false := by simpa using hv
        clear hl hv
        generalize K k = g at *
        go_wp2_with fail
        go_roundw
        case rel => exact ⟨k + 1, by omega, by go_num, HL, trivial⟩
        case measure => simp [intOf]; omega
    · have hke : k = m := by omega
      subst hke
      have HF : Hid (∀ j, j < k → ((K j).id : Int) ≠ v) := hl.out
      have HW : Hid (FrAt ((((((wr.setCell ⟨w.heap.size, 0, none⟩ (.int .u32 0)).setCell ⟨w.heap.size, 1, none⟩ (.int .i64 0)).setCell ⟨w.heap.size, 2, none⟩ (.slice none 0 0)).setCell ⟨w.heap.size, 3, none⟩ (.int .i64 0)).setCell ⟨w.heap.size, 4, none⟩ (.int .i64 0)).setCell ⟨w.heap.size, 5, none⟩ (.int .i64 0)) w.heap.size Fr.zero) := F1.out.write Fr.zero
      have HB : Hid (Below w.heap.size w ((((((wr.setCell ⟨w.heap.size, 0, none⟩ (.int .u32 0)).setCell ⟨w.heap.size, 1, none⟩ (.int .i64 0)).setCell ⟨w.heap.size, 2, none⟩ (.slice none 0 0)).setCell ⟨w.heap.size, 3, none⟩ (.int .i64 0)).setCell ⟨w.heap.size, 4, none⟩ (.int .i64 0)).setCell ⟨w.heap.size, 5, none⟩ (.int .i64 0))) := below_write B1.out (Nat.le_refl _) Fr.zero
      clear hl
      go_wp2
      generalize ((((((wr.setCell ⟨w.heap.size, 0, none⟩ (.int .u32 0)).setCell ⟨w.heap.size, 1, none⟩ (.int .i64 0)).setCell ⟨w.heap.size, 2, none⟩ (.slice none 0 0)).setCell ⟨w.heap.size, 3, none⟩ (.int .i64 0)).setCell ⟨w.heap.size, 4, none⟩ (.int .i64 0)).setCell ⟨w.heap.size, 5, none⟩ (.int .i64 0)) = w2 at *
      obtain ⟨p0, p1, p2, p3, p4, p5, -⟩ := HW.out
      simp only [Fr.zero] at p0 p1 p2 p3 p4 p5
      refine bodyPost_ret (v := .tuple #[.agg #[.int .u32 0, .int .i64 0, .slice none 0 0, .int .i64 0, .int .i64 0, .int .i64 0], .bool false]) ?_ rfl (FindIs.mk (g := Fr.zero) HB.out (.inr ⟨rfl, HF.out⟩))
      simp [results, Try.results19, go_sem, p0, p1, p2, p3, p4, p5]
end Go.Proofs.Ytclbcggbnbimaaa

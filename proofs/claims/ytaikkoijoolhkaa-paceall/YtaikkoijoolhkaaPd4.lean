/-
  The document's Queue: what its Wants stands on: better, rows of wants cut and put together.
-/
import Derived.Test.YtaikkoijoolhkaaPc6
import Derived.Deep.Upon
namespace Go.Proofs.Ytaikkoijoolhkaa
open Go.RowKit Go.Deep

/-- x stays ahead of a. -/
def bet (x a : Wn) : Bool := !decide (a.lt x)
theorem bet_true {x a : Wn} (h : ¬ a.lt x) : bet x a = true := by unfold bet; rw [decide_eq_false h]; rfl
theorem bet_false {x a : Wn} (h : a.lt x) : bet x a = false := by unfold bet; rw [decide_eq_true h]; rfl

set_option maxRecDepth 100000 in
set_option maxHeartbeats 1000000 in
theorem better_any (x a : Wn) (w : World) :
    Calls Try.prog 31 #[.agg x.arr, .agg a.arr, .int .i64 0, .int .i64 1] w fun e w' => e = .returned (.bool (bet x a)) ∧ Below w.heap.size w w' := by
  obtain ⟨G, hG⟩ : ∃ G, w.heap.size = G := ⟨_, rfl⟩
  obtain ⟨x0, e0⟩ : ∃ y, w.alloc (.cells #[.int .u32 (x.i : Int), .int .i64 x.r, .int .i64 x.b] 45) = y := ⟨_, rfl⟩
  obtain ⟨H, hH⟩ : ∃ H, x0.heap.size = H := ⟨_, rfl⟩
  obtain ⟨x1, e1⟩ : ∃ y, x0.alloc (.cells #[.int .u32 (a.i : Int), .int .i64 a.r, .int .i64 a.b] 45) = y := ⟨_, rfl⟩
  have A0 : WnAt x0 G 0 x := by rw [← e0, ← hG]; exact WnAt.made w _ x
  have A1 : WnAt x1 H 0 a := by rw [← e1, ← hH]; exact WnAt.made x0 _ a
  have B0 : Below w.heap.size w x0 := e0 ▸ (Below.refl _ _).alloc (Nat.le_refl _) _
  have B1 : Below x0.heap.size x0 x1 := e1 ▸ (Below.refl _ _).alloc (Nat.le_refl _) _
  have HB : Hid (Below G w x1) := hG ▸ B0.trans (B1.mono B0.size)
  have A2 := A0.grew B1
  have HG : Hid (w.heap.size = G) := hG
  obtain ⟨c0, c1, c2⟩ := A2
  obtain ⟨d0, d1, d2⟩ := A1
  clear B0 B1 A0
  unfold Wn.arr
  rcases Int.lt_trichotomy x.r a.r with h1 | h1 | h1
  · have hb : bet x a = true := bet_true (by unfold Wn.lt; omega)
    rw [hb]
    have i1 : (x.r == a.r) = false := by simp; omega
    have i2 : decide (x.r < a.r) = true := by simpa using h1
    clear h1 hb
    go_enter Try.func31, Try.ntmps31
    go_wp2_with fail
    go_ret
    exact ⟨rfl, HG.out ▸ HB.out⟩
  · rcases Nat.lt_trichotomy x.i a.i with h2 | h2 | h2
    · have hb : bet x a = true := bet_true (by unfold Wn.lt; omega)
      rw [hb]
      have i1 : ((x.i : Int) == (a.i : Int)) = false := by simp; omega
      have i2 : decide (x.i < a.i) = true := by simpa using h2
      rw [h1] at c1 e0
      rw [h1]
      clear h1 h2 hb
      go_enter Try.func31, Try.ntmps31
      go_wp2_with fail
      go_ret
      exact ⟨rfl, HG.out ▸ HB.out⟩
    · have hb : bet x a = true := bet_true (by unfold Wn.lt; omega)
      rw [hb]
      rw [h1] at c1 e0
      rw [h2] at c0 e0
      rw [h1, h2]
      clear h1 h2 hb
      go_enter Try.func31, Try.ntmps31
      go_wp2_with fail
      go_ret
      exact ⟨rfl, HG.out ▸ HB.out⟩
    · have hb : bet x a = false := bet_false (by unfold Wn.lt; omega)
      rw [hb]
      have i1 : ((x.i : Int) == (a.i : Int)) = false := by simp; omega
      have i2 : decide (x.i < a.i) = false := by simp; omega
      rw [h1] at c1 e0
      rw [h1]
      clear h1 h2 hb
      go_enter Try.func31, Try.ntmps31
      go_wp2_with fail
      go_ret
      exact ⟨rfl, HG.out ▸ HB.out⟩
  · have hb : bet x a = false := bet_false (by unfold Wn.lt; omega)
    rw [hb]
    have i1 : (x.r == a.r) = false := by simp; omega
    have i2 : decide (x.r < a.r) = false := by simp; omega
    clear h1 hb
    go_enter Try.func31, Try.ntmps31
    go_wp2_with fail
    go_ret
    exact ⟨rfl, HG.out ▸ HB.out⟩

/-- One more is told in its place. -/
theorem Told.ins {P O : List Wn} {a : Wn} {k : Nat} (h : Told P O) (hk : k ≤ O.length) (h1 : ∀ j (hj : j < O.length), j < k → bet O[j] a = true) (h2 : ∀ hj : k < O.length, bet O[k] a = false) : Told (P ++ [a]) (O.take k ++ [a] ++ O.drop k) := by
  have hb1 : ∀ x, x ∈ O.take k → ¬ a.lt x := by
    intro x hx
    obtain ⟨j, hj, rfl⟩ := List.mem_iff_getElem.1 hx
    rw [List.length_take] at hj
    rw [List.getElem_take]
    have := h1 j (by omega) (by omega)
    simpa [bet] using this
  have hb2 : ∀ x, x ∈ O.drop k → ¬ x.lt a := by
    intro x hx
    obtain ⟨j, hj, rfl⟩ := List.mem_iff_getElem.1 hx
    rw [List.length_drop] at hj
    rw [List.getElem_drop]
    have hkl : k < O.length := by omega
    have h3 : a.lt O[k] := by have := h2 hkl; simpa [bet] using this
    by_cases e : j = 0
    · subst e
      simp only [Nat.add_zero]
      unfold Wn.lt at *
      omega
    · have h4 := List.pairwise_iff_getElem.1 h.ord k (k + j) hkl (by omega) (by omega)
      unfold Wn.lt at *
      omega
  have hsp := List.take_append_drop k O
  have hord : (O.take k ++ O.drop k).Pairwise fun a b => ¬ b.lt a := by rw [hsp]; exact h.ord
  rw [List.pairwise_append] at hord
  refine ⟨?_, ?_⟩
  · have p1 : (O.take k ++ [a] ++ O.drop k).Perm (a :: (O.take k ++ O.drop k)) := by
      rw [List.append_assoc]
      exact List.perm_middle
    rw [hsp] at p1
    refine p1.trans ?_
    exact ((h.perm.cons a).trans (List.perm_append_singleton a P).symm)
  · rw [List.append_assoc, List.pairwise_append]
    refine ⟨hord.1, ?_, fun x hx y hy => ?_⟩
    · rw [List.singleton_append, List.pairwise_cons]
      exact ⟨fun y hy => hb2 y hy, hord.2.1⟩
    · rw [List.singleton_append, List.mem_cons] at hy
      rcases hy with rfl | hy
      · exact hb1 x hx
      · exact hord.2.2 x hx y hy
theorem Told.nil : Told [] [] := ⟨List.Perm.refl _, List.Pairwise.nil⟩

set_option maxRecDepth 100000 in
theorem wcut_to (a : Option Addr) (len cap k : Nat) (w : World) (h : k ≤ cap) : (Instr.slice 41 (.slice a len cap) none (some (.int .i64 (k : Int))) none).run Try.prog w = .ok (.slice a k cap) w := by
  have hz : ∀ x : Addr, x.add 0 = x := fun _ => rfl
  have e := run_slice_h (P := Try.prog) w 41 a len cap Try.underlying41 .i64 (k : Int) (by omega) (by omega)
  rw [e]
  simp [sliced, hz]
  have hs : (sizeOf (Try.prog.elem 41)).run Try.prog w = .ok 3 w := by kernel_rfl
  rw [hs]
  rfl
set_option maxRecDepth 100000 in
theorem wcut_from (b o n c k : Nat) (w : World) (h1 : k < n) (h2 : n ≤ c) : (Instr.slice 41 (.slice (some ⟨b, o, none⟩) n c) (some (.int .i64 (k : Int))) none none).run Try.prog w = .ok (.slice (some ⟨b, o + k * 3, none⟩) (n - k) (c - k)) w := by
  have e := run_slice_l (P := Try.prog) w 41 (some ⟨b, o, none⟩) n c Try.underlying41 .i64 (k : Int) (by omega) (by omega)
  rw [e]
  have hs : (sizeOf (Try.prog.elem 41)).run Try.prog w = .ok 3 w := by kernel_rfl
  rw [hs]
  have hz : (⟨b, o, none⟩ : Addr).add (k * 3) = ⟨b, o + k * 3, none⟩ := by unfold Addr.add; split <;> simp_all
  simp only [Result.andThen, sliced, Int.toNat_natCast, Option.map_some, hz]
  rw [if_neg (by omega)]
set_option maxRecDepth 100000 in
theorem wcut_end (a : Option Addr) (n c : Nat) (_h2 : n ≤ c) : ∃ a', (a' = none ↔ a = none) ∧ (∀ b o, a = some ⟨b, o, none⟩ → ∃ b' o', a' = some ⟨b', o', none⟩) ∧ ∀ w, (Instr.slice 41 (.slice a n c) (some (.int .i64 (n : Int))) none none).run Try.prog w = .ok (.slice a' 0 (c - n)) w := by
  have e := fun w => run_slice_l (P := Try.prog) w 41 a n c Try.underlying41 .i64 (n : Int) (by omega) (by omega)
  have hs : ∀ w, (sizeOf (Try.prog.elem 41)).run Try.prog w = .ok 3 w := fun w => by kernel_rfl
  by_cases hc : c = n
  · refine ⟨a, Iff.rfl, fun b o e => ⟨b, o, e⟩, fun w => ?_⟩
    rw [e, hs]
    simp only [Result.andThen, sliced, Int.toNat_natCast, Nat.sub_self]
    rw [if_pos hc]
  · refine ⟨a.map (·.add (n * 3)), by cases a <;> simp, fun b o e => ⟨b, o + n * 3, by rw [e, Option.map_some, Addr.add_mid]⟩, fun w => ?_⟩
    rw [e, hs]
    simp only [Result.andThen, sliced, Int.toNat_natCast, Nat.sub_self]
    rw [if_neg hc]
end Go.Proofs.Ytaikkoijoolhkaa

/-
  Package ledger's functions: Next; and what all come to, in one row each.
-/
import Derived.Test.YtjmfhkpaloipkaaLg2
namespace Go.Proofs.Ytjmfhkpaloipkaa
open Go.RowKit Go.Deep Go.Maps

set_option maxRecDepth 100000 in
set_option maxHeartbeats 1000000 in
theorem lnext_nil (x : Nat) (hx : x < 4294967296) (w : World) :
    Calls Try.prog 14 #[.pointer none, .int .u32 (x : Int)] w fun e w' => e = .returned (.tuple #[.int .i64 0, .bool false]) ∧ Below w.heap.size w w' := by
  have hl : (Instr.lookup 40 (.map none) (.int .u32 (x : Int)) false).run Try.prog w = .ok (.agg #[.int .i64 0, .int .i64 0]) w := nil_look x hx false w
  go_enter Try.func14, Try.ntmps14
  go_wp2_with fail
  refine (lframes_nil w).mono ?_
  rintro e w' ⟨rfl, rfl⟩
  go_wp2
  go_ret2
  exact ⟨rfl, (Below.refl _ _).alloc (Nat.le_refl _) _⟩
set_option maxRecDepth 100000 in
set_option maxHeartbeats 1000000 in
theorem lnext_none (a t x : Nat) (v : Option Nat) (G : Lg.St) (w : World) (h : LedAt w a v t G) (hx : x < 4294967296) (h0 : Lg.lft (G x) = 0) :
    Calls Try.prog 14 #[.pointer (some ⟨a, 0, none⟩), .int .u32 (x : Int)] w fun e w' => e = .returned (.tuple #[.int .i64 0, .bool false]) ∧ Below w.heap.size w w' := by
  have hl : (Instr.lookup 40 (.map v) (.int .u32 (x : Int)) false).run Try.prog w = .ok (.agg #[.int .i64 (Lg.nxt (G x) : Int), .int .i64 (Lg.lft (G x) : Int)]) w := h.map.look hx
  rw [h0, Int.natCast_zero] at hl
  have hc := h.cell
  generalize Lg.nxt (G x) = N at *
  clear h
  go_enter Try.func14, Try.ntmps14
  go_wp2_with fail
  refine (lframes_any a v w hc).mono ?_
  rintro e w' ⟨rfl, rfl⟩
  go_wp2
  go_ret2
  exact ⟨rfl, (Below.refl _ _).alloc (Nat.le_refl _) _⟩
set_option maxRecDepth 100000 in
set_option maxHeartbeats 2000000 in
theorem lnext_yes (a t x b : Nat) (G : Lg.St) (w : World) (h : LedAt w a (some b) t G) (hx : x < 4294967296) (h0 : ¬ Lg.lft (G x) = 0) (ht : t ≤ 1000000) :
    Calls Try.prog 14 #[.pointer (some ⟨a, 0, none⟩), .int .u32 (x : Int)] w fun e w' => e = .returned (.tuple #[.int .i64 (Lg.nxt (G x) : Int), .bool true]) ∧ LedAt w' a (some b) (t + 1) (Lg.put G x (Lg.told (G x))) ∧ KeptF (LedOwn a (some b)) w w' := by
  have hl : (Instr.lookup 40 (.map (some b)) (.int .u32 (x : Int)) false).run Try.prog w = .ok (.agg #[.int .i64 (Lg.nxt (G x) : Int), .int .i64 (Lg.lft (G x) : Int)]) w := h.map.look hx
  have hc := h.cell
  have n1 := Lg.nxt_le h.wf x
  have n2 := Lg.lft_le (G x)
  have n3 := Lg.nxt_told h0
  have n4 := Lg.lft_told h0
  have n5 := Lg.told_some h0
  have n6 := Lg.wf_put h.wf x (Lg.told (G x)) (Lg.told_wf h.wf x h0)
  obtain ⟨N, eN⟩ : ∃ N, Lg.nxt (G x) = N := ⟨_, rfl⟩
  obtain ⟨L, eL⟩ : ∃ L, Lg.lft (G x) = L := ⟨_, rfl⟩
  rw [eN, eL] at hl
  rw [eN] at n1 n3
  rw [eL] at n2 n4 h0
  have eN' : Hid (Lg.nxt (G x) = N) := eN
  have m1 : IntKind.i64.wrap ((N : Int) + 1) = ((N + 1 : Nat) : Int) := by simp [IntKind.wrap, IntKind.bits, IntKind.signed]; omega
  have m2 : IntKind.i64.wrap ((L : Int) - 1) = ((L - 1 : Nat) : Int) := by simp [IntKind.wrap, IntKind.bits, IntKind.signed]; omega
  obtain ⟨W0, e0⟩ : ∃ W0, w.alloc (Obj.cells #[Value.int IntKind.i64 (N : Int), Value.int IntKind.i64 (L : Int)] 47) = W0 := ⟨_, rfl⟩
  obtain ⟨B, eB⟩ : ∃ B, w.heap.size = B := ⟨_, rfl⟩
  have A0 : Below w.heap.size w W0 := by rw [← e0]; exact (Below.refl _ _).alloc (Nat.le_refl _) _
  have c1 : W0.cell? ⟨w.heap.size, 1, none⟩ = some (.int .i64 (L : Int)) := by rw [← e0, World.cell?_alloc_at _ _ _ _ rfl]; rfl
  have c0 : W0.cell? ⟨w.heap.size, 0, none⟩ = some (.int .i64 (N : Int)) := by rw [← e0, World.cell?_alloc_at _ _ _ _ rfl]; rfl
  rw [eB] at c0 c1
  have L0 := h.grew A0
  have ca := L0.cell
  have z : ((L : Int) == 0) = false := by simp; omega
  have K2 : Below w.heap.size w W0.drew := A0.trans ⟨rfl, rfl, rfl, Nat.le_refl _, fun _ _ => rfl⟩
  have M : SymAt W0.drew b t G := by
    rcases L0.map with ⟨q, -⟩ | ⟨c, q, M⟩
    · cases q
    · cases q; exact M.block rfl
  obtain ⟨w3, d1, d2, d3, d4⟩ := M.put (o := Lg.told (G x)) hx n5 ht
  have d1' : (Instr.mapUpdate 40 (.map (some b)) (.int .u32 (x : Int)) (.agg #[.int .i64 ((N : Int) + 1), .int .i64 ((L - 1 : Nat) : Int)])).run Try.prog W0.drew = .ok () w3 := by
    rw [symVal, n3, n4] at d1
    exact d1
  have bB : some B ≠ some b := fun e => by
    have e := Option.some.inj e
    rcases h.map with ⟨q, -⟩ | ⟨c, q, M⟩
    · cases q
    · cases q; have := M.lt; omega
  have ab : some a ≠ some b := fun e => L0.ne e.symm
  have z0 : W0.drew.heap.size = W0.heap.size := rfl
  have c3 : w3.cell? ⟨B, 0, none⟩ = some (.int .i64 (N : Int)) := (World.cell?_of_block (d3.block B (by rw [z0]; exact cell_lt c0) bB)).trans c0
  have HE : Hid (LedAt w3 a (some b) (t + 1) (Lg.put G x (Lg.told (G x))) ∧ KeptF (LedOwn a (some b)) w w3) := ⟨⟨(World.cell?_of_block (d3.block a L0.lt ab)).trans L0.cell, (World.frozen?_of_block (a := ⟨a, 0, none⟩) (d3.block a L0.lt ab)).trans L0.frz, .inr ⟨b, rfl, d2⟩, n6, L0.ne⟩, (KeptF.of_below K2).trans (KeptF.of_grown d3 fun R e => .inr e)⟩
  go_enter Try.func14, Try.ntmps14
  go_wp2_with fail
  refine (lframes_any a (some b) w hc).mono ?_
  rintro e w' ⟨rfl, rfl⟩
  clear h L0 A0 n5 n6 n3 n4 eN eL K2 M d1 d2 d3 d4 bB
  go_wp2_with fail
  go_region
  go_wp2
  go_ret2
  exact ⟨by rw [eN'.out]; rfl, HE.out⟩
/-- Open, whatever is asked. -/
theorem lopen_any (a t x : Nat) (k : Int) (v : Option Nat) (G : Lg.St) (w : World) (h : LedAt w a v t G) (hx : x < 4294967296) (ht : t ≤ 1000000) :
    Calls Try.prog 10 #[.pointer (some ⟨a, 0, none⟩), .int .u32 (x : Int), .int .i64 k] w fun e w' => e = .returned (.bool (Lg.okay (G x) k)) ∧ ∃ v', LedTo w v v' ∧ LedAt w' a v' (t + 1) (Lg.opened G x k) ∧ KeptF (LedOwn a v) w w' := by
  have no : Lg.okay (G x) k = false → (∀ e w', e = Ending.returned (.bool false) ∧ Below w.heap.size w w' → e = .returned (.bool (Lg.okay (G x) k)) ∧ ∃ v', LedTo w v v' ∧ LedAt w' a v' (t + 1) (Lg.opened G x k) ∧ KeptF (LedOwn a v) w w') := by
    rintro e0 e w' ⟨rfl, b⟩
    refine ⟨by rw [e0], v, .inl rfl, ?_, KeptF.of_below b⟩
    have e1 : Lg.opened G x k = G := by unfold Lg.opened; rw [e0]; rfl
    rw [e1]
    exact (h.grew b).mono (by omega)
  by_cases g : (G x).isSome = true
  · exact (lopen_was a t x k v G w h hx g).mono fun e w' => no (by
      cases q : G x with
      | none => rw [q] at g; cases g
      | some p => rfl) e w'
  have g' : (G x).isSome = false := by simpa using g
  have gn : G x = none := by simpa using g
  by_cases k1 : k < 1
  · exact (lopen_few a t x k v G w h hx g' k1).mono fun e w' => no (by simp [Lg.okay, gn]; omega) e w'
  by_cases k2 : 32 < k
  · exact (lopen_many a t x k v G w h hx g' k2).mono fun e w' => no (by simp [Lg.okay, gn]; omega) e w'
  have yes : Lg.okay (G x) k = true := by simp [Lg.okay, gn]; omega
  obtain ⟨n, rfl⟩ : ∃ n : Nat, k = n := ⟨k.toNat, by omega⟩
  have e1 : Lg.opened G x (n : Int) = Lg.put G x (some (n, 0)) := by unfold Lg.opened; rw [yes]; rfl
  rw [yes, e1]
  cases v with
  | none =>
    refine (lopen_first a t x n G w h hx g' (by omega) (by omega) ht).mono ?_
    rintro e w' ⟨rfl, b, hb, L, K⟩
    exact ⟨rfl, some b, .inr ⟨b, rfl, hb⟩, L, K⟩
  | some b =>
    refine (lopen_more a t x n b G w h hx g' (by omega) (by omega) ht).mono ?_
    rintro e w' ⟨rfl, L, K⟩
    exact ⟨rfl, some b, .inl rfl, L, K⟩
/-- Next, whatever is left. -/
theorem lnext_any (a t x : Nat) (v : Option Nat) (G : Lg.St) (w : World) (h : LedAt w a v t G) (hx : x < 4294967296) (ht : t ≤ 1000000) :
    Calls Try.prog 14 #[.pointer (some ⟨a, 0, none⟩), .int .u32 (x : Int)] w fun e w' => e = .returned (.tuple #[.int .i64 (Lg.ans (G x) : Int), .bool (Lg.yes (G x))]) ∧ LedAt w' a v (t + 1) (Lg.next G x) ∧ KeptF (LedOwn a v) w w' := by
  by_cases h0 : Lg.lft (G x) = 0
  · refine (lnext_none a t x v G w h hx h0).mono ?_
    rintro e w' ⟨rfl, b⟩
    have e1 : Lg.next G x = G := by unfold Lg.next; rw [if_pos h0]
    have e2 : Lg.ans (G x) = 0 := by unfold Lg.ans; rw [if_pos h0]
    have e3 : Lg.yes (G x) = false := by unfold Lg.yes; rw [h0]; rfl
    rw [e1, e2, e3]
    exact ⟨rfl, (h.grew b).mono (by omega), KeptF.of_below b⟩
  · have e1 : Lg.next G x = Lg.put G x (Lg.told (G x)) := by unfold Lg.next; rw [if_neg h0]
    have e2 : Lg.ans (G x) = Lg.nxt (G x) := by unfold Lg.ans; rw [if_neg h0]
    have e3 : Lg.yes (G x) = true := by unfold Lg.yes; exact decide_eq_true (by omega)
    rw [e1, e2, e3]
    cases v with
    | none =>
      rcases h.map with ⟨-, q⟩ | ⟨c, q, -⟩
      · exact absurd (by rw [q x]; rfl) h0
      · cases q
    | some b => exact lnext_yes a t x b G w h hx h0 ht
end Go.Proofs.Ytjmfhkpaloipkaa

/-
  Package ledger's functions: Open, Next.
-/
import Derived.Test.YtjmfhkpaloipkaaLg1
namespace Go.Proofs.Ytjmfhkpaloipkaa
open Go.RowKit Go.Deep Go.Maps

set_option maxRecDepth 100000 in
set_option maxHeartbeats 1000000 in
theorem lopen_nil (x : Nat) (k : Int) (hx : x < 4294967296) (w : World) :
    Calls Try.prog 10 #[.pointer none, .int .u32 (x : Int), .int .i64 k] w fun e w' => e = .returned (.bool false) ∧ Below w.heap.size w w' := by
  have hl : (Instr.lookup 40 (.map none) (.int .u32 (x : Int)) true).run Try.prog w = .ok (.tuple #[.agg #[.int .i64 0, .int .i64 0], .bool false]) w := nil_look x hx true w
  go_enter Try.func10, Try.ntmps10
  go_wp2_with fail
  refine (lframes_nil w).mono ?_
  rintro e w' ⟨rfl, rfl⟩
  go_wp2
  go_ret
  exact ⟨rfl, (Below.refl _ _).alloc (Nat.le_refl _) _⟩
set_option maxRecDepth 100000 in
set_option maxHeartbeats 1000000 in
theorem lopen_was (a t x : Nat) (k : Int) (v : Option Nat) (G : Lg.St) (w : World) (h : LedAt w a v t G) (hx : x < 4294967296) (g : (G x).isSome = true) :
    Calls Try.prog 10 #[.pointer (some ⟨a, 0, none⟩), .int .u32 (x : Int), .int .i64 k] w fun e w' => e = .returned (.bool false) ∧ Below w.heap.size w w' := by
  have hl : (Instr.lookup 40 (.map v) (.int .u32 (x : Int)) true).run Try.prog w = .ok (.tuple #[.agg #[.int .i64 (Lg.nxt (G x) : Int), .int .i64 (Lg.lft (G x) : Int)], .bool (G x).isSome]) w := h.map.look_ok hx
  rw [g] at hl
  have hc := h.cell
  clear h g
  go_enter Try.func10, Try.ntmps10
  go_wp2_with fail
  refine (lframes_any a v w hc).mono ?_
  rintro e w' ⟨rfl, rfl⟩
  go_wp2
  go_ret
  exact ⟨rfl, (Below.refl _ _).alloc (Nat.le_refl _) _⟩
set_option maxRecDepth 100000 in
set_option maxHeartbeats 1000000 in
theorem lopen_few (a t x : Nat) (k : Int) (v : Option Nat) (G : Lg.St) (w : World) (h : LedAt w a v t G) (hx : x < 4294967296) (g : (G x).isSome = false) (hk : k < 1) :
    Calls Try.prog 10 #[.pointer (some ⟨a, 0, none⟩), .int .u32 (x : Int), .int .i64 k] w fun e w' => e = .returned (.bool false) ∧ Below w.heap.size w w' := by
  have hl : (Instr.lookup 40 (.map v) (.int .u32 (x : Int)) true).run Try.prog w = .ok (.tuple #[.agg #[.int .i64 (Lg.nxt (G x) : Int), .int .i64 (Lg.lft (G x) : Int)], .bool (G x).isSome]) w := h.map.look_ok hx
  rw [g] at hl
  have hc := h.cell
  have k1 : decide (k < 1) = true := decide_eq_true hk
  clear h g hk
  go_enter Try.func10, Try.ntmps10
  go_wp2_with fail
  refine (lframes_any a v w hc).mono ?_
  rintro e w' ⟨rfl, rfl⟩
  go_wp2
  go_ret
  exact ⟨rfl, (Below.refl _ _).alloc (Nat.le_refl _) _⟩
set_option maxRecDepth 100000 in
set_option maxHeartbeats 1000000 in
theorem lopen_many (a t x : Nat) (k : Int) (v : Option Nat) (G : Lg.St) (w : World) (h : LedAt w a v t G) (hx : x < 4294967296) (g : (G x).isSome = false) (hk : 32 < k) :
    Calls Try.prog 10 #[.pointer (some ⟨a, 0, none⟩), .int .u32 (x : Int), .int .i64 k] w fun e w' => e = .returned (.bool false) ∧ Below w.heap.size w w' := by
  have hl : (Instr.lookup 40 (.map v) (.int .u32 (x : Int)) true).run Try.prog w = .ok (.tuple #[.agg #[.int .i64 (Lg.nxt (G x) : Int), .int .i64 (Lg.lft (G x) : Int)], .bool (G x).isSome]) w := h.map.look_ok hx
  rw [g] at hl
  have hc := h.cell
  have k1 : decide (k < 1) = false := decide_eq_false (by omega)
  have k2 : decide (32 < k) = true := decide_eq_true hk
  clear h g hk
  go_enter Try.func10, Try.ntmps10
  go_wp2_with fail
  refine (lframes_any a v w hc).mono ?_
  rintro e w' ⟨rfl, rfl⟩
  go_wp2
  go_ret
  exact ⟨rfl, (Below.refl _ _).alloc (Nat.le_refl _) _⟩
set_option maxRecDepth 100000 in
set_option maxHeartbeats 2000000 in
theorem lopen_more (a t x k b : Nat) (G : Lg.St) (w : World) (h : LedAt w a (some b) t G) (hx : x < 4294967296) (g : (G x).isSome = false) (h1 : 1 ≤ k) (h2 : k ≤ 32) (ht : t ≤ 1000000) :
    Calls Try.prog 10 #[.pointer (some ⟨a, 0, none⟩), .int .u32 (x : Int), .int .i64 (k : Int)] w fun e w' => e = .returned (.bool true) ∧ LedAt w' a (some b) (t + 1) (Lg.put G x (some (k, 0))) ∧ KeptF (LedOwn a (some b)) w w' := by
  have hl : (Instr.lookup 40 (.map (some b)) (.int .u32 (x : Int)) true).run Try.prog w = .ok (.tuple #[.agg #[.int .i64 (Lg.nxt (G x) : Int), .int .i64 (Lg.lft (G x) : Int)], .bool (G x).isSome]) w := h.map.look_ok hx
  rw [g] at hl
  have hc := h.cell
  have k1 : decide ((k : Int) < 1) = false := decide_eq_false (by omega)
  have k2 : decide (32 < (k : Int)) = false := decide_eq_false (by omega)
  obtain ⟨W0, e0⟩ : ∃ W0, w.alloc (Obj.cells #[Value.int IntKind.i64 (Lg.nxt (G x) : Int), Value.int IntKind.i64 (Lg.lft (G x) : Int)] 47) = W0 := ⟨_, rfl⟩
  have A0 : Below w.heap.size w W0 := by rw [← e0]; exact (Below.refl _ _).alloc (Nat.le_refl _) _
  have L0 := h.grew A0
  have c0 := L0.cell
  have f0 := L0.frz
  have hq : (binOp .eql 40 (.map (some b)) (.map none)).run Try.prog W0 = .ok (.bool false) W0 := sym_eql _ _
  obtain ⟨b', eb, M⟩ := L0.map.resolve_left (fun e => by cases e.1)
  obtain rfl : b = b' := by cases eb; rfl
  obtain ⟨w3, d1, d2, d3, d4⟩ := M.put (o := some (k, 0)) hx rfl ht
  have d1' : (Instr.mapUpdate 40 (.map (some b)) (.int .u32 (x : Int)) (.agg #[.int .i64 (k : Int), .int .i64 64])).run Try.prog W0 = .ok () w3 := d1
  have ab : some a ≠ some b := fun e => L0.ne e.symm
  have HE : Hid (LedAt w3 a (some b) (t + 1) (Lg.put G x (some (k, 0))) ∧ KeptF (LedOwn a (some b)) w w3) := ⟨⟨(World.cell?_of_block (d3.block a L0.lt ab)).trans L0.cell, (World.frozen?_of_block (a := ⟨a, 0, none⟩) (d3.block a L0.lt ab)).trans L0.frz, .inr ⟨b, rfl, d2⟩, Lg.wf_put L0.wf x _ fun _ _ q => by cases q; omega, L0.ne⟩, (KeptF.of_below A0).trans (KeptF.of_grown d3 fun R e => .inr e)⟩
  clear h g A0 L0 eb M d1 d2 d3 d4 ab h1 h2
  go_enter Try.func10, Try.ntmps10
  go_wp2_with fail
  refine (lframes_any a (some b) w hc).mono ?_
  rintro e w' ⟨rfl, rfl⟩
  go_wp2
  go_ret
  exact ⟨rfl, HE.out⟩
set_option maxRecDepth 100000 in
set_option maxHeartbeats 2000000 in
theorem lopen_first (a t x k : Nat) (G : Lg.St) (w : World) (h : LedAt w a none t G) (hx : x < 4294967296) (g : (G x).isSome = false) (h1 : 1 ≤ k) (h2 : k ≤ 32) (ht : t ≤ 1000000) :
    Calls Try.prog 10 #[.pointer (some ⟨a, 0, none⟩), .int .u32 (x : Int), .int .i64 (k : Int)] w fun e w' => e = .returned (.bool true) ∧ ∃ b, w.heap.size ≤ b ∧ LedAt w' a (some b) (t + 1) (Lg.put G x (some (k, 0))) ∧ KeptF (LedOwn a none) w w' := by
  have hl : (Instr.lookup 40 (.map none) (.int .u32 (x : Int)) true).run Try.prog w = .ok (.tuple #[.agg #[.int .i64 (Lg.nxt (G x) : Int), .int .i64 (Lg.lft (G x) : Int)], .bool (G x).isSome]) w := h.map.look_ok hx
  rw [g] at hl
  have hc := h.cell
  have k1 : decide ((k : Int) < 1) = false := decide_eq_false (by omega)
  have k2 : decide (32 < (k : Int)) = false := decide_eq_false (by omega)
  obtain ⟨W0, e0⟩ : ∃ W0, w.alloc (Obj.cells #[Value.int IntKind.i64 (Lg.nxt (G x) : Int), Value.int IntKind.i64 (Lg.lft (G x) : Int)] 47) = W0 := ⟨_, rfl⟩
  have A0 : Below w.heap.size w W0 := by rw [← e0]; exact (Below.refl _ _).alloc (Nat.le_refl _) _
  have L0 := h.grew A0
  have c0 := L0.cell
  have f0 := L0.frz
  have hq : (binOp .eql 40 (.map none) (.map none)).run Try.prog W0 = .ok (.bool true) W0 := sym_eql _ _
  have mk := make_sym W0
  obtain ⟨W1, e1⟩ : ∃ W1, W0.alloc (.map #[] 0) = W1 := ⟨_, rfl⟩
  rw [e1] at mk
  have A1 : Below W0.heap.size W0 W1 := by rw [← e1]; exact (Below.refl _ _).alloc (Nat.le_refl _) _
  have L1 := L0.grew A1
  have M1 : SymAt W1 W0.heap.size 0 (fun _ => none) := by rw [← e1]; exact SymAt.made W0
  have c1 := L1.cell
  have f1 := L1.frz
  obtain ⟨b, eb⟩ : ∃ b, W0.heap.size = b := ⟨_, rfl⟩
  have ab : b ≠ a := by have := L0.lt; omega
  rw [eb] at mk M1
  obtain ⟨W2, e2⟩ : ∃ W2, W1.setCell ⟨a, 0, none⟩ (.map (some b)) = W2 := ⟨_, rfl⟩
  have K2 : Kept a W1 W2 := by rw [← e2]; exact Kept.set _ _ _
  have M2 : SymAt W2 b 0 (fun _ => none) := M1.block (K2.block b M1.lt ab)
  have c2 : W2.cell? ⟨a, 0, none⟩ = some (.map (some b)) := by rw [← e2]; exact World.cell?_setCell_same _ _ _ c1
  have f2 : W2.frozen? ⟨a, 0, none⟩ = false := by rw [← e2, World.frozen?_setCell]; exact f1
  have z2 : a < W2.heap.size := cell_lt c2
  have GN : ∀ y, G y = none := (L0.map.resolve_right (fun ⟨c, q, _⟩ => by cases q)).2
  obtain ⟨w3, d1, d2, d3, d4⟩ := M2.put (o := some (k, 0)) hx rfl (by omega)
  have d1' : (Instr.mapUpdate 40 (.map (some b)) (.int .u32 (x : Int)) (.agg #[.int .i64 (k : Int), .int .i64 64])).run Try.prog W2 = .ok () w3 := d1
  have ba : some a ≠ some b := fun e => ab (Option.some.inj e).symm
  have hG : G = fun _ => none := funext GN
  have D3 : SymAt w3 b (t + 1) (Lg.put G x (some (k, 0))) := by
    rw [hG]
    obtain ⟨D, o1, o2⟩ := d2
    exact ⟨D, o1.mono (by omega), o2⟩
  have zb : w.heap.size ≤ b := by rw [← eb]; exact A0.size
  have K02 : KeptF (LedOwn a none) w W2 := ((KeptF.of_below A0).trans (KeptF.of_below A1)).trans (KeptF.of_kept K2 (.inl rfl))
  have K03 : KeptF (LedOwn a none) w w3 := ⟨d3.os.trans K02.os, d3.tape.trans K02.tape, d3.output.trans K02.output, Nat.le_trans K02.size d3.size, fun i hi hn => (d3.block i (Nat.lt_of_lt_of_le hi K02.size) (fun e => by cases e; omega)).trans (K02.block i hi hn)⟩
  have HE : Hid (∃ b, w.heap.size ≤ b ∧ LedAt w3 a (some b) (t + 1) (Lg.put G x (some (k, 0))) ∧ KeptF (LedOwn a none) w w3) := ⟨b, zb, ⟨(World.cell?_of_block (d3.block a z2 ba)).trans c2, (World.frozen?_of_block (a := ⟨a, 0, none⟩) (d3.block a z2 ba)).trans f2, .inr ⟨b, rfl, D3⟩, Lg.wf_put L0.wf x _ fun _ _ q => by cases q; omega, fun e => ab (Option.some.inj e)⟩, K03⟩
  clear h g A0 L0 A1 L1 M1 eb ab K2 M2 z2 GN d1 d2 d3 d4 ba hG D3 zb K02 K03 h1 h2
  go_enter Try.func10, Try.ntmps10
  go_wp2_with fail
  refine (lframes_any a none w hc).mono ?_
  rintro e w' ⟨rfl, rfl⟩
  go_wp2
  go_ret
  exact ⟨rfl, HE.out⟩
end Go.Proofs.Ytjmfhkpaloipkaa

/-
  Package ledger's functions: frames, New, Left, Close.
-/
import Derived.Test.YtjmfhkpaloipkaaLg0
namespace Go.Proofs.Ytjmfhkpaloipkaa
open Go.RowKit Go.Deep Go.Maps

set_option maxRecDepth 100000 in
set_option maxHeartbeats 400000 in
theorem lframes_any (a : Nat) (v : Option Nat) (w : World) (h : w.cell? ⟨a, 0, none⟩ = some (.map v)) :
    Calls Try.prog 18 #[.pointer (some ⟨a, 0, none⟩)] w fun e w' => e = .returned (.map v) ∧ w' = w := by
  go_enter Try.func18, Try.ntmps18
  go_wp2
  go_ret
  exact ⟨rfl, rfl⟩
set_option maxRecDepth 100000 in
set_option maxHeartbeats 400000 in
theorem lframes_nil (w : World) :
    Calls Try.prog 18 #[.pointer none] w fun e w' => e = .returned (.map none) ∧ w' = w := by
  go_enter Try.func18, Try.ntmps18
  go_wp2
  go_ret
  exact ⟨rfl, rfl⟩
set_option maxRecDepth 100000 in
set_option maxHeartbeats 400000 in
theorem lnew_any (w : World) :
    Calls Try.prog 8 #[] w fun e w' => e = .returned (.pointer (some ⟨w.heap.size, 0, none⟩)) ∧ LedAt w' w.heap.size none 0 (fun _ => none) ∧ Below w.heap.size w w' ∧ w'.heap.size = w.heap.size + 1 := by
  go_enter Try.func8, Try.ntmps8
  go_wp2
  go_ret
  exact ⟨rfl, ⟨by rw [World.cell?_alloc_at _ _ _ _ rfl]; rfl, by rw [World.frozen?_alloc_at _ _ _ _ rfl], .inl ⟨rfl, fun _ => rfl⟩, Lg.wf_none, by simp⟩, (Below.refl _ _).alloc (Nat.le_refl _) _, by simp⟩

/-- The map's look, whoever asks: a Ledger's, or of none. -/
theorem nil_look (x : Nat) (hx : x < 4294967296) (c : Bool) (w : World) :
    (Instr.lookup 40 (.map none) (.int .u32 (x : Int)) c).run Try.prog w = .ok (if c then .tuple #[.agg #[.int .i64 0, .int .i64 0], .bool false] else .agg #[.int .i64 0, .int .i64 0]) w :=
  Maps.look_nil c Try.keyU32 Try.underlying40 (Try.zeroSym w) (key_u32 x hx)
theorem field_one (a b : Int) (w : World) : (Instr.field 47 (.agg #[.int .i64 a, .int .i64 b]) 1).run Try.prog w = .ok (.int .i64 b) w := by kernel_rfl
set_option maxRecDepth 100000 in
set_option maxHeartbeats 400000 in
theorem lleft_nil (x : Nat) (hx : x < 4294967296) (w : World) :
    Calls Try.prog 16 #[.pointer none, .int .u32 (x : Int)] w fun e w' => e = .returned (.int .i64 0) ∧ w' = w := by
  have hl : (Instr.lookup 40 (.map none) (.int .u32 (x : Int)) false).run Try.prog w = .ok (.agg #[.int .i64 0, .int .i64 0]) w := nil_look x hx false w
  have hf := field_one 0 0 w
  go_enter Try.func16, Try.ntmps16
  go_wp2_with fail
  refine (lframes_nil w).mono ?_
  rintro e w' ⟨rfl, rfl⟩
  go_wp2
  go_ret
  exact ⟨rfl, rfl⟩
set_option maxRecDepth 100000 in
set_option maxHeartbeats 400000 in
theorem lleft_any (a t x : Nat) (v : Option Nat) (G : Lg.St) (w : World) (h : LedAt w a v t G) (hx : x < 4294967296) :
    Calls Try.prog 16 #[.pointer (some ⟨a, 0, none⟩), .int .u32 (x : Int)] w fun e w' => e = .returned (.int .i64 (Lg.lft (G x) : Int)) ∧ w' = w := by
  have hl : (Instr.lookup 40 (.map v) (.int .u32 (x : Int)) false).run Try.prog w = .ok (.agg #[.int .i64 (Lg.nxt (G x) : Int), .int .i64 (Lg.lft (G x) : Int)]) w := h.map.look hx
  have hc := h.cell
  have hf := field_one (Lg.nxt (G x) : Int) (Lg.lft (G x) : Int) w
  clear h
  go_enter Try.func16, Try.ntmps16
  go_wp2_with fail
  refine (lframes_any a v w hc).mono ?_
  rintro e w' ⟨rfl, rfl⟩
  go_wp2
  go_ret
  exact ⟨rfl, rfl⟩
set_option maxRecDepth 100000 in
set_option maxHeartbeats 1000000 in
theorem lclose_any (a t x : Nat) (v : Option Nat) (G : Lg.St) (w : World) (h : LedAt w a v t G) (hx : x < 4294967296) :
    Calls Try.prog 12 #[.pointer (some ⟨a, 0, none⟩), .int .u32 (x : Int)] w fun e w' => e = .returned (.bool (G x).isSome) ∧ LedAt w' a v t (Lg.put G x none) ∧ KeptF (LedOwn a v) w w' := by
  have hl : (Instr.lookup 40 (.map v) (.int .u32 (x : Int)) true).run Try.prog w = .ok (.tuple #[.agg #[.int .i64 (Lg.nxt (G x) : Int), .int .i64 (Lg.lft (G x) : Int)], .bool (G x).isSome]) w := h.map.look_ok hx
  have hc := h.cell
  have H : Hid (LedAt w a v t G) := h
  clear h
  go_enter Try.func12, Try.ntmps12
  go_wp2_with fail
  refine (lframes_any a v w hc).mono ?_
  rintro e w' ⟨rfl, rfl⟩
  go_wp2_with fail
  have A : Below w'.heap.size w' (w'.alloc (Obj.cells #[Value.int IntKind.i64 (Lg.nxt (G x) : Int), Value.int IntKind.i64 (Lg.lft (G x) : Int)] 47)) := (Below.refl _ _).alloc (Nat.le_refl _) _
  have H1 : LedAt (w'.alloc (Obj.cells #[Value.int IntKind.i64 (Lg.nxt (G x) : Int), Value.int IntKind.i64 (Lg.lft (G x) : Int)] 47)) a v t G := H.out.grew A
  generalize w'.alloc (Obj.cells #[Value.int IntKind.i64 (Lg.nxt (G x) : Int), Value.int IntKind.i64 (Lg.lft (G x) : Int)] 47) = W at *
  obtain ⟨w2, d1, d2, d3, d4⟩ := H1.map.drop 0 hx
  have hc1 := H1.cell
  have K1 : KeptF (LedOwn a v) W w2 := KeptF.of_grown d3 fun R e => .inr e
  have HE : Hid (LedAt w2 a v t (Lg.put G x none) ∧ KeptF (LedOwn a v) w' w2) := ⟨LedAt.mk (by
      rw [← hc1]; exact World.cell?_of_block (d3.block a H1.lt fun e => H1.ne e.symm)) (by rw [← H1.frz]; exact World.frozen?_of_block (a := ⟨a, 0, none⟩) (d3.block a H1.lt fun e => H1.ne e.symm)) d2 (Lg.wf_put H1.wf x none fun _ _ q => by cases q) H1.ne, (KeptF.of_below A).trans K1⟩
  clear A H1 d2 d3 d4 K1 H
  refine (lframes_any a v W hc1).mono ?_
  rintro e w'' ⟨rfl, rfl⟩
  go_wp2
  go_ret
  exact ⟨rfl, HE.out.1, HE.out.2⟩
set_option maxRecDepth 100000 in
set_option maxHeartbeats 400000 in
theorem lclose_nil (x : Nat) (hx : x < 4294967296) (w : World) :
    Calls Try.prog 12 #[.pointer none, .int .u32 (x : Int)] w fun e w' => e = .returned (.bool false) ∧ Below w.heap.size w w' := by
  have hl : (Instr.lookup 40 (.map none) (.int .u32 (x : Int)) true).run Try.prog w = .ok (.tuple #[.agg #[.int .i64 0, .int .i64 0], .bool false]) w := nil_look x hx true w
  go_enter Try.func12, Try.ntmps12
  go_wp2_with fail
  refine (lframes_nil w).mono ?_
  rintro e w' ⟨rfl, rfl⟩
  go_wp2_with fail
  have A : Below w'.heap.size w' (w'.alloc (Obj.cells #[Value.int IntKind.i64 0, Value.int IntKind.i64 0] 47)) := (Below.refl _ _).alloc (Nat.le_refl _) _
  have HA : Hid (Below w'.heap.size w' (w'.alloc (Obj.cells #[Value.int IntKind.i64 0, Value.int IntKind.i64 0] 47))) := A
  clear A
  generalize w'.alloc (Obj.cells #[Value.int IntKind.i64 0, Value.int IntKind.i64 0] 47) = W at *
  have d1 := Maps.drop_nil (w := W) Try.keyU32 Try.underlying40 (key_u32 x hx) 0
  refine (lframes_nil W).mono ?_
  rintro e w'' ⟨rfl, rfl⟩
  go_wp2
  go_ret
  exact ⟨rfl, HA.out⟩
end Go.Proofs.Ytjmfhkpaloipkaa

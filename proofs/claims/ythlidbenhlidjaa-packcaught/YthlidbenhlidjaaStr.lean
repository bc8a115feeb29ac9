/-
  Rows of bytes read as strings, and rows that came in as arguments.
-/
import Derived.Test.YthlidbenhlidjaaBeg
import Derived.Laws.BytesArg
import Derived.OpenShut
namespace Go.Proofs.Ythlidbenhlidjaa
open Go.RowKit Go.Deep

/-- The sum of a row and c times another, place by place. -/
def addUp (y x : Nat → Nat) (c : Nat) (i : Nat) : Nat := y i ^^^ Gf.mul c (x i)

theorem axpy_bytes (p n m cn cm c : Nat) (a b : Option Addr) (y x : Nat → Nat) (w : World) (h : FieldAt w p) (hy : BytesAt w a n y) (hx : BytesAt w b m x) (hn : n ≤ 140737488351232) (hm : m ≤ 140737488351232) (hc : c < 256) (k : Nat) (hk : k = min n m) :
    Calls Try.prog 38 #[.pointer (some ⟨p, 0, none⟩), .slice a n cn, .slice b m cm, .int .u8 c] w fun e w' =>
      e = .returned (.slice (some ⟨w.heap.size, 0, none⟩) k k) ∧ BytesAt w' (some ⟨w.heap.size, 0, none⟩) k (addUp y x c) ∧ Below w.heap.size w w' ∧ w'.heap.size = w.heap.size + 1 := by
  subst hk
  refine (axpy_any p n m cn cm c a b y x w h hy hx hn hm hc).mono ?_
  rintro e w' ⟨rfl, hr, hb, hs⟩
  refine ⟨rfl, ⟨fun _ => ⟨_, 0, rfl, fun i hi => ?_⟩, fun i hi => ?_⟩, hb, hs⟩
  · rw [Nat.zero_add, hr.cell hi]
    unfold addRow addUp
    rw [if_pos hi]
  · exact Gf.xor_lt _ _ (hy.lt i (by omega)) (Gf.mul_lt _ _)

end Go.Proofs.Ythlidbenhlidjaa

/-
  A Basis whose rows are told by a table; what Add makes of it, reckoned; that package basis has begun.
-/
import Derived.Test.YtdlalcbcgdambaaCop
namespace Go.Proofs.Ytdlalcbcgdambaa
open Go.RowKit Go.Deep

def listAt (l : List Nat) (i : Nat) : Nat := l.getD i 0
/-- The rows as a table has them. -/
def tab (T : List (Option (List Nat))) (i : Nat) : Option (Nat → Nat) := (T.getD i none).map listAt
def tabOk (k n : Nat) (S : Nat → Option (Nat → Nat)) (T : List (Option (List Nat))) : Bool :=
  (List.range k).all fun i => match S i, T.getD i none with
    | none, none => true
    | some r, some l => (List.range n).all fun j => r j == listAt l j
    | _, _ => false
def addOk (k n : Nat) (T : List (Option (List Nat))) (v : Nat → Nat) (ans : Bool) (T' : List (Option (List Nat))) : Bool :=
  (addOf (tab T) k v).1 == ans && tabOk k n (addOf (tab T) k v).2 T'

theorem BytesAt.congr {w : World} {a : Option Addr} {n : Nat} {x y : Nat → Nat} (h : BytesAt w a n x) (e : ∀ i, i < n → x i = y i) : BytesAt w a n y := by
  refine ⟨fun hn => ?_, fun i hi => by rw [← e i hi]; exact h.lt i hi⟩
  obtain ⟨b, o, ea, hc⟩ := h.cells hn
  exact ⟨b, o, ea, fun i hi => by rw [← e i hi]; exact hc i hi⟩
theorem BasisAt.tab {w : World} {B R k size : Nat} {S : Nat → Option (Nat → Nat)} {T : List (Option (List Nat))} (h : BasisAt w B R k size S) (ht : tabOk k (k + size) S T = true) : BasisAt w B R k size (tab T) := by
  refine ⟨h.field, h.sz, h.rows, ?_, h.k1, h.k32, h.s1, h.s64⟩
  obtain ⟨A, hr, hv⟩ := h.room
  refine ⟨A, hr, fun i hi => ?_⟩
  have h1 := hv i hi
  have h2 := List.all_eq_true.1 ht i (List.mem_range.2 hi)
  unfold Proofs.Ytdlalcbcgdambaa.tab
  cases hS : S i with
  | none =>
    rw [hS] at h1 h2
    cases hT : T.getD i none with
    | none => exact h1
    | some l => rw [hT] at h2; cases h2
  | some r =>
    rw [hS] at h1 h2
    cases hT : T.getD i none with
    | none => rw [hT] at h2; cases h2
    | some l =>
      rw [hT] at h2
      obtain ⟨b, c, e, hn, hB⟩ := h1
      refine ⟨b, c, e, hn, hB.congr fun j hj => ?_⟩
      have := List.all_eq_true.1 h2 j (List.mem_range.2 hj)
      simpa using this

def cellsL (l : List Nat) : Array Value := (l.map fun (n : Nat) => Value.int .u8 (n : Int)).toArray
theorem lit_bytes (w : World) (l : List Nat) (h : l.all (fun n => decide (n < 256)) = true) : BytesAt (w.alloc (.cells (cellsL l) 5)) (some ⟨w.heap.size, 0, none⟩) l.length (listAt l) := by
  refine ⟨fun _ => ⟨_, 0, rfl, fun i hi => ?_⟩, fun i hi => ?_⟩
  · rw [Nat.zero_add, World.cell?_alloc_at _ _ _ _ rfl]
    unfold cellsL listAt
    simp [hi]
  · have := List.all_eq_true.1 h (l.getD i 0) (by rw [List.getD_eq_getElem?_getD, List.getElem?_eq_getElem hi]; simp)
    simpa [listAt] using this

theorem below_two (w : World) (o1 o2 : Obj) : Below w.heap.size w ((w.alloc o1).alloc o2) := ((Below.refl _ _).alloc (Nat.le_refl _) _).alloc (by simp) _
theorem lits_at (w : World) (l1 l2 : List Nat) (A1 A2 : Array Value) (e1 : A1 = cellsL l1) (e2 : A2 = cellsL l2) (h1 : l1.all (fun n => decide (n < 256)) = true) (h2 : l2.all (fun n => decide (n < 256)) = true) :
    BytesAt ((w.alloc (.cells A1 5)).alloc (.cells A2 5)) (some ⟨w.heap.size, 0, none⟩) l1.length (listAt l1) ∧ BytesAt ((w.alloc (.cells A1 5)).alloc (.cells A2 5)) (some ⟨w.heap.size + 1, 0, none⟩) l2.length (listAt l2) := by
  subst e1
  subst e2
  refine ⟨(lit_bytes w l1 h1).grew ((Below.refl _ _).alloc (Nat.le_refl _) _), ?_⟩
  have := lit_bytes (w.alloc (.cells (cellsL l1) 5)) l2 h2
  rwa [World.size_alloc] at this

/-- A symbol that was answered, as the walk reads it. -/
theorem sym_at {w : World} {L k size : Nat} {T : List (Option (List Nat))} {A : Nat → Value} (hr : w.rowIs L 24 k A) (h : SymsTo w L k size (tab T) k A) (i : Nat) (hi : i < k) (l : List Nat) (hl : T.getD i none = some l) (str : ByteArray) (hs : strOf size (fun t => listAt l (k + t)) = str) :
    ∃ b c, w.cell? ⟨L, i, none⟩ = some (.slice (some ⟨b, 0, none⟩) size c) ∧ (convert 24 9 (.slice (some ⟨b, 0, none⟩) size c)).run Try.prog w = .ok (.string str) w := by
  obtain ⟨r, b, c, h1, h2, -, h4⟩ := h i hi
  have e : r = listAt l := by
    unfold tab at h1
    rw [hl] at h1
    exact (Option.some.inj h1).symm
  subst e
  exact ⟨b, c, by rw [hr.cell hi, h2], by rw [conv_bytes _ size c _ w h4, hs]⟩

end Go.Proofs.Ytdlalcbcgdambaa

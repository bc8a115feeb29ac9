/-
  A Basis whose rows are told by a table; what Add makes of it, reckoned; that package basis has begun.
-/
import Derived.Test.YtgbeklifcchmlaaCop
import Derived.Test.YtgbeklifcchmlaaZer
namespace Go.Proofs.Ytgbeklifcchmlaa
open Go.RowKit Go.Deep

/-- The rows as a table has them. -/
def tab (T : List (Option (List Nat))) (i : Nat) : Option (Nat → Nat) := (T.getD i none).map listAt
def tabOk (k n : Nat) (S : Nat → Option (Nat → Nat)) (T : List (Option (List Nat))) : Bool :=
  (List.range k).all fun i => match S i, T.getD i none with
    | none, none => true
    | some r, some l => (List.range n).all fun j => r j == listAt l j
    | _, _ => false
def addOk (k n : Nat) (T : List (Option (List Nat))) (v : Nat → Nat) (ans : Bool) (T' : List (Option (List Nat))) : Bool :=
  (addOf (tab T) k v).1 == ans && tabOk k n (addOf (tab T) k v).2 T'

theorem BasisAt.tab {w : World} {B R k size : Nat} {S : Nat → Option (Nat → Nat)} {T : List (Option (List Nat))} (h : BasisAt w B R k size S) (ht : tabOk k (k + size) S T = true) : BasisAt w B R k size (tab T) := by
  refine ⟨h.field, h.sz, h.rows, ?_, h.k1, h.k32, h.s1, h.s64⟩
  obtain ⟨A, hr, hv⟩ := h.room
  refine ⟨A, hr, fun i hi => ?_⟩
  have h1 := hv i hi
  have h2 := List.all_eq_true.1 ht i (List.mem_range.2 hi)
  unfold Proofs.Ytgbeklifcchmlaa.tab
  cases hS : S i with
  | none =>
    rw [hS] at h1 h2
    cases hT : T.getD i none with
    | none => exact h1
    | some l => rw [hT] at h2; cases h2
  | some r =>
    rw [hS] at h1 h2
    cases hT : T.getD i none with
    | none => rw [hT] at h2; cases h2
    | some l =>
      rw [hT] at h2
      obtain ⟨b, c, e, hn, hB⟩ := h1
      refine ⟨b, c, e, hn, hB.congr fun j hj => ?_⟩
      have := List.all_eq_true.1 h2 j (List.mem_range.2 hj)
      simpa using this

def cellsL (l : List Nat) : Array Value := (l.map fun (n : Nat) => Value.int .u8 (n : Int)).toArray
theorem lit_bytes (w : World) (l : List Nat) (h : l.all (fun n => decide (n < 256)) = true) : BytesAt (w.alloc (.cells (cellsL l) 5)) (some ⟨w.heap.size, 0, none⟩) l.length (listAt l) := by
  refine ⟨fun _ => ⟨_, 0, rfl, fun i hi => ?_⟩, fun i hi => ?_⟩
  · rw [Nat.zero_add, World.cell?_alloc_at _ _ _ _ rfl]
    unfold cellsL listAt
    simp [hi]
  · have := List.all_eq_true.1 h (l.getD i 0) (by rw [List.getD_eq_getElem?_getD, List.getElem?_eq_getElem hi]; simp)
    simpa [listAt] using this

theorem lits_at (w : World) (l1 l2 : List Nat) (A1 A2 : Array Value) (e1 : A1 = cellsL l1) (e2 : A2 = cellsL l2) (h1 : l1.all (fun n => decide (n < 256)) = true) (h2 : l2.all (fun n => decide (n < 256)) = true) :
    BytesAt ((w.alloc (.cells A1 5)).alloc (.cells A2 5)) (some ⟨w.heap.size, 0, none⟩) l1.length (listAt l1) ∧ BytesAt ((w.alloc (.cells A1 5)).alloc (.cells A2 5)) (some ⟨w.heap.size + 1, 0, none⟩) l2.length (listAt l2) := by
  subst e1
  subst e2
  refine ⟨(lit_bytes w l1 h1).grew ((Below.refl _ _).alloc (Nat.le_refl _) _), ?_⟩
  have := lit_bytes (w.alloc (.cells (cellsL l1) 5)) l2 h2
  rwa [World.size_alloc] at this

/-- What Add of two rows that are written out comes to. -/
theorem add_lits (B R k size : Nat) (T : List (Option (List Nat))) (ans : Bool) (T' : List (Option (List Nat))) (l1 l2 : List Nat) (A1 A2 : Array Value) (w : World) (h : BasisAt w B R k size (tab T)) (e1 : A1 = cellsL l1) (e2 : A2 = cellsL l2)
    (h1 : l1.all (fun n => decide (n < 256)) = true) (h2 : l2.all (fun n => decide (n < 256)) = true) (n1 : l1.length = k) (n2 : l2.length = size) (hok : addOk k (k + size) T (cat (listAt l1) (listAt l2) k) ans T' = true) :
    Calls Try.prog 35 #[.pointer (some ⟨B, 0, none⟩), .slice (some ⟨w.heap.size, 0, none⟩) k k, .slice (some ⟨w.heap.size + 1, 0, none⟩) size size] ((w.alloc (.cells A1 5)).alloc (.cells A2 5)) fun e w' => e = .returned (.bool ans) ∧ BasisAt w' B R k size (tab T') ∧ Kept R w w' := by
  obtain ⟨hx, hy⟩ := lits_at w l1 l2 A1 A2 e1 e2 h1 h2
  rw [n1] at hx
  rw [n2] at hy
  have hb := below_two w (.cells A1 5) (.cells A2 5)
  refine (add_yes B R k size k size _ _ (tab T) _ _ _ (h.grew hb) hx hy).mono ?_
  rintro e w' ⟨rfl, h3, h4⟩
  unfold addOk at hok
  rw [Bool.and_eq_true, beq_iff_eq] at hok
  exact ⟨by rw [hok.1], h3.tab hok.2, (Kept.of_below hb).trans h4⟩
/-- .. of rows of another length. -/
theorem add_lits_no (B R k size n m : Nat) (S : Nat → Option (Nat → Nat)) (A1 A2 : Array Value) (w : World) (h : BasisAt w B R k size S) (hno : n ≠ k ∨ m ≠ size) :
    Calls Try.prog 35 #[.pointer (some ⟨B, 0, none⟩), .slice (some ⟨w.heap.size, 0, none⟩) n n, .slice (some ⟨w.heap.size + 1, 0, none⟩) m m] ((w.alloc (.cells A1 5)).alloc (.cells A2 5)) fun e w' => e = .returned (.bool false) ∧ BasisAt w' B R k size S ∧ Kept R w w' := by
  have hb := below_two w (.cells A1 5) (.cells A2 5)
  refine (add_no B R k size n m n m _ _ S _ (h.grew hb) hno).mono ?_
  rintro e w' ⟨rfl, rfl⟩
  exact ⟨rfl, h.grew hb, Kept.of_below hb⟩

/-- A symbol that was answered, as the walk reads it. -/
theorem sym_at {w : World} {L k size : Nat} {T : List (Option (List Nat))} {A : Nat → Value} (hr : w.rowIs L 34 k A) (h : SymsTo w L k size (tab T) k A) (i : Nat) (hi : i < k) (l : List Nat) (hl : T.getD i none = some l) (str : ByteArray) (hs : strOf size (fun t => listAt l (k + t)) = str) :
    ∃ b c, w.cell? ⟨L, i, none⟩ = some (.slice (some ⟨b, 0, none⟩) size c) ∧ (convert 34 9 (.slice (some ⟨b, 0, none⟩) size c)).run Try.prog w = .ok (.string str) w := by
  obtain ⟨r, b, c, h1, h2, -, h4⟩ := h i hi
  have e : r = listAt l := by
    unfold tab at h1
    rw [hl] at h1
    exact (Option.some.inj h1).symm
  subst e
  exact ⟨b, c, by rw [hr.cell hi, h2], by rw [conv_bytes _ size c _ w h4, hs]⟩

end Go.Proofs.Ytgbeklifcchmlaa

/-
  A block of cells in memory, told by a function, and a run of stores into it.
-/
import Derived.Test.YtcflaklnafggmaaByt
namespace Go.Proofs.Ytcflaklnafggmaa
open Go.RowKit Go.Deep

/-- The first N cells of block B hold v, and may be written. -/
structure VAt (w : World) (B N : Nat) (v : Nat → Value) : Prop where
  cell : ∀ i, i < N → w.cell? ⟨B, i, none⟩ = some (v i)
  frz : ∀ i, w.frozen? ⟨B, i, none⟩ = false
theorem VAt.lt {w : World} {B N : Nat} {v : Nat → Value} (h : VAt w B N v) (hN : 0 < N) : B < w.heap.size := cell_lt (h.cell 0 hN)
theorem VAt.congr {w : World} {B N : Nat} {v u : Nat → Value} (h : VAt w B N v) (e : ∀ i, i < N → v i = u i) : VAt w B N u := ⟨fun i hi => e i hi ▸ h.cell i hi, h.frz⟩
theorem VAt.grew {w w' : World} {B N : Nat} {v : Nat → Value} (h : VAt w B (N + 1) v) (hb : Below w.heap.size w w') : VAt w' B (N + 1) v :=
  ⟨fun i hi => (hb.cell (p := ⟨B, i, none⟩) (h.lt (Nat.succ_pos _))).trans (h.cell i hi), fun i => (World.frozen?_of_block (a := ⟨B, i, none⟩) (hb.block B (h.lt (Nat.succ_pos _)))).trans (h.frz i)⟩
theorem VAt.made {w : World} {T : TypeId} {cs : Array Value} {v : Nat → Value} {N : Nat} (h : ∀ i, i < N → cs[i]? = some (v i)) : VAt (w.alloc (.cells cs T)) w.heap.size N v :=
  ⟨fun i hi => by rw [World.cell?_alloc_at _ _ _ _ rfl]; exact h i hi, fun i => by rw [World.frozen?_alloc_at _ _ _ _ rfl]⟩
theorem VAt.set {w : World} {B N : Nat} {v : Nat → Value} (h : VAt w B N v) (i : Nat) (u : Value) (hi : i < N) : VAt (w.setCell ⟨B, i, none⟩ u) B N (fun j => if j = i then u else v j) := by
  refine ⟨fun j hj => ?_, fun j => by rw [World.frozen?_setCell]; exact h.frz j⟩
  by_cases e : j = i
  · subst e; rw [if_pos rfl]; exact World.cell?_setCell_same _ _ _ (h.cell j hj)
  · rw [if_neg e, World.cell?_setCell_other _ _ _ _ (fun q => e (Addr.mk.inj q).2.1.symm)]; exact h.cell j hj
theorem VAt.other {w : World} {B N R i : Nat} {v : Nat → Value} (h : VAt w B N v) (u : Value) (hne : R ≠ B) : VAt (w.setCell ⟨R, i, none⟩ u) B N v :=
  ⟨fun j hj => (World.cell?_setCell_other _ _ _ _ (blk_ne hne)).trans (h.cell j hj), fun j => by rw [World.frozen?_setCell]; exact h.frz j⟩

/-- us, one behind the other, stored into block B from cell i on. -/
def puts (w : World) (B : Nat) : Nat → List Value → World
  | _, [] => w
  | i, u :: us => puts (w.setCell ⟨B, i, none⟩ u) B (i + 1) us
def laidV (v : Nat → Value) : Nat → List Value → Nat → Value
  | _, [], j => v j
  | i, u :: us, j => laidV (fun j => if j = i then u else v j) (i + 1) us j
theorem VAt.puts {B N : Nat} : ∀ (us : List Value) {w : World} {v : Nat → Value} (i : Nat), VAt w B N v → i + us.length ≤ N → VAt (puts w B i us) B N (laidV v i us)
  | [], _, _, _, h, _ => h
  | u :: us, _, _, i, h, hl => by
    have hl : i + (us.length + 1) ≤ N := hl
    exact VAt.puts us (i + 1) (h.set i u (by omega)) (by omega)
theorem VAt.putsOther {B N R : Nat} (hne : R ≠ B) : ∀ (us : List Value) {w : World} {v : Nat → Value} (i : Nat), VAt w B N v → VAt (Proofs.Ytcflaklnafggmaa.puts w R i us) B N v
  | [], _, _, _, h => h
  | u :: us, _, _, i, h => VAt.putsOther hne us (i + 1) (h.other u hne)
theorem puts_below {B R : Nat} (hR : B ≤ R) {w : World} : ∀ (us : List Value) {w' : World} (i : Nat), Below B w w' → Below B w (puts w' R i us)
  | [], _, _, h => h
  | u :: us, _, i, h => puts_below hR us (i + 1) (h.setCell (p := ⟨R, i, none⟩) hR u)
theorem puts_size {R : Nat} : ∀ (us : List Value) {w : World} (i : Nat), (puts w R i us).heap.size = w.heap.size
  | [], _, _ => rfl
  | _ :: us, _, i => (puts_size us (i + 1)).trans (by simp [World.setCell])
theorem puts_cell {R b o : Nat} (hne : R ≠ b) {x : Value} : ∀ (us : List Value) {w : World} (i : Nat), w.cell? ⟨b, o, none⟩ = some x → (puts w R i us).cell? ⟨b, o, none⟩ = some x
  | [], _, _, h => h
  | _ :: us, _, i, h => puts_cell hne us (i + 1) ((World.cell?_setCell_other _ _ _ _ (blk_ne hne)).trans h)
/-- No byte. -/
def notByte (v : Value) : Prop := ∀ z, v ≠ .int .u8 z
theorem BytesAt.setAny {w : World} {a : Option Addr} {n R i : Nat} {x : Nat → Nat} {o v : Value} (h : BytesAt w a n x) (hc : w.cell? ⟨R, i, none⟩ = some o) (ho : notByte o) : BytesAt (w.setCell ⟨R, i, none⟩ v) a n x := by
  refine ⟨fun h0 => ?_, h.lt⟩
  obtain ⟨b, q, rfl, hx⟩ := h.cells h0
  refine ⟨b, q, rfl, fun j hj => ?_⟩
  rw [World.cell?_setCell_other _ _ _ _ (fun e => ?_)]
  · exact hx j hj
  · rw [e, hx j hj] at hc
    exact ho _ (Option.some.inj hc).symm
theorem BytesAt.puts {B N : Nat} : ∀ (us : List Value) {w : World} {v : Nat → Value} {a : Option Addr} {n : Nat} {x : Nat → Nat} (i : Nat), BytesAt w a n x → VAt w B N v → i + us.length ≤ N → (∀ j, j < N → notByte (v j)) → BytesAt (puts w B i us) a n x
  | [], _, _, _, _, _, _, h, _, _, _ => h
  | u :: us, w, v, a, n, x, i, h, V, hl, hv => by
    have hl : i + (us.length + 1) ≤ N := hl
    suffices H : ∀ (us : List Value) {w : World} (i : Nat), BytesAt w a n x → (∀ j, i ≤ j → j < N → w.cell? ⟨B, j, none⟩ = some (v j)) → i + us.length ≤ N → BytesAt (Proofs.Ytcflaklnafggmaa.puts w B i us) a n x from
      H (u :: us) i h (fun j _ hj => V.cell j hj) hl
    intro us
    induction us with
    | nil => intro w i h _ _; exact h
    | cons u us ih =>
      intro w i h hc hl
      have hl : i + (us.length + 1) ≤ N := hl
      refine ih (i + 1) (h.setAny (hc i (Nat.le_refl _) (by omega)) (hv i (by omega))) (fun j h1 h2 => ?_) (by omega)
      rw [World.cell?_setCell_other _ _ _ _ (fun q => by have := (Addr.mk.inj q).2.1; omega)]
      exact hc j (by omega) h2
end Go.Proofs.Ytcflaklnafggmaa

/-
  Items and wants: how they lie in memory, in rows of the call's own; what stays but for some blocks.
-/
import Derived.Test.YtaikkoijoolhkaaLrw
namespace Go.Proofs.Ytaikkoijoolhkaa
open Go.RowKit Go.Deep

/-- An item: its frame, symbol, rank, bytes, deadline. -/
structure It where
  f : Nat
  s : Int
  r : Int
  b : Int
  d : Int
deriving DecidableEq
def It.val (a : It) : Value := .agg #[.int .u32 (a.f : Int), .int .i64 a.s, .int .i64 a.r, .int .i64 a.b, .int .i64 a.d]
def iE : Enc It where
  cells a := [.int .u32 (a.f : Int), .int .i64 a.s, .int .i64 a.r, .int .i64 a.b, .int .i64 a.d]
  n := 5
  len _ := rfl
  one a u hu := by simp at hu; rcases hu with rfl | rfl | rfl | rfl | rfl <;> rfl
  pos := by decide
/-- A want: its ID, its rank, its bytes. -/
structure Wn where
  i : Nat
  r : Int
  b : Int
deriving DecidableEq
def wE : Enc Wn where
  cells a := [.int .u32 (a.i : Int), .int .i64 a.r, .int .i64 a.b]
  n := 3
  len _ := rfl
  one a u hu := by simp at hu; rcases hu with rfl | rfl | rfl <;> rfl
  pos := by decide
/-- The five cells of an item at o. -/
structure ItAt (w : World) (b o : Nat) (a : It) : Prop where
  c0 : w.cell? ⟨b, o, none⟩ = some (.int .u32 (a.f : Int))
  c1 : w.cell? ⟨b, o + 1, none⟩ = some (.int .i64 a.s)
  c2 : w.cell? ⟨b, o + 2, none⟩ = some (.int .i64 a.r)
  c3 : w.cell? ⟨b, o + 3, none⟩ = some (.int .i64 a.b)
  c4 : w.cell? ⟨b, o + 4, none⟩ = some (.int .i64 a.d)
structure WnAt (w : World) (b o : Nat) (a : Wn) : Prop where
  c0 : w.cell? ⟨b, o, none⟩ = some (.int .u32 (a.i : Int))
  c1 : w.cell? ⟨b, o + 1, none⟩ = some (.int .i64 a.r)
  c2 : w.cell? ⟨b, o + 2, none⟩ = some (.int .i64 a.b)
theorem ItAt.block {w w' : World} {B o : Nat} {a : It} (h : ItAt w B o a) (e : w'.heap[B]? = w.heap[B]?) : ItAt w' B o a :=
  ⟨(World.cell?_of_block (a := ⟨B, _, none⟩) e).trans h.c0, (World.cell?_of_block (a := ⟨B, _, none⟩) e).trans h.c1, (World.cell?_of_block (a := ⟨B, _, none⟩) e).trans h.c2, (World.cell?_of_block (a := ⟨B, _, none⟩) e).trans h.c3, (World.cell?_of_block (a := ⟨B, _, none⟩) e).trans h.c4⟩
theorem ItAt.grew {w w' : World} {B o : Nat} {a : It} (h : ItAt w B o a) (hb : Below w.heap.size w w') : ItAt w' B o a := h.block (hb.block B (cell_lt h.c0))
theorem WnAt.block {w w' : World} {B o : Nat} {a : Wn} (h : WnAt w B o a) (e : w'.heap[B]? = w.heap[B]?) : WnAt w' B o a :=
  ⟨(World.cell?_of_block (a := ⟨B, _, none⟩) e).trans h.c0, (World.cell?_of_block (a := ⟨B, _, none⟩) e).trans h.c1, (World.cell?_of_block (a := ⟨B, _, none⟩) e).trans h.c2⟩
theorem WnAt.grew {w w' : World} {B o : Nat} {a : Wn} (h : WnAt w B o a) (hb : Below w.heap.size w w') : WnAt w' B o a := h.block (hb.block B (cell_lt h.c0))
theorem ItAt.made (w : World) (T : TypeId) (a : It) : ItAt (w.alloc (.cells #[.int .u32 (a.f : Int), .int .i64 a.s, .int .i64 a.r, .int .i64 a.b, .int .i64 a.d] T)) w.heap.size 0 a :=
  ⟨by rw [World.cell?_alloc_at _ _ _ _ rfl]; rfl, by rw [World.cell?_alloc_at _ _ _ _ rfl]; rfl, by rw [World.cell?_alloc_at _ _ _ _ rfl]; rfl, by rw [World.cell?_alloc_at _ _ _ _ rfl]; rfl, by rw [World.cell?_alloc_at _ _ _ _ rfl]; rfl⟩
theorem WnAt.made (w : World) (T : TypeId) (a : Wn) : WnAt (w.alloc (.cells #[.int .u32 (a.i : Int), .int .i64 a.r, .int .i64 a.b] T)) w.heap.size 0 a :=
  ⟨by rw [World.cell?_alloc_at _ _ _ _ rfl]; rfl, by rw [World.cell?_alloc_at _ _ _ _ rfl]; rfl, by rw [World.cell?_alloc_at _ _ _ _ rfl]; rfl⟩
theorem ItAt.el {w : World} {q : Nat} {a : It} (h : ItAt w q 0 a) : ElAt iE w q a := fun j u hu => by
  have c0 := h.c0
  have c1 := h.c1
  have c2 := h.c2
  have c3 := h.c3
  have c4 := h.c4
  match j, hu with
  | 0, hu => cases hu; exact c0
  | 1, hu => cases hu; exact c1
  | 2, hu => cases hu; exact c2
  | 3, hu => cases hu; exact c3
  | 4, hu => cases hu; exact c4
  | j + 5, hu => simp [iE] at hu
theorem WnAt.el {w : World} {q : Nat} {a : Wn} (h : WnAt w q 0 a) : ElAt wE w q a := fun j u hu => by
  have c0 := h.c0
  have c1 := h.c1
  have c2 := h.c2
  match j, hu with
  | 0, hu => cases hu; exact c0
  | 1, hu => cases hu; exact c1
  | 2, hu => cases hu; exact c2
  | j + 3, hu => simp [wE] at hu
theorem ls_it {w : World} {b o : Nat} {l : List It} (h : LsAt iE w (some ⟨b, o, none⟩) l) (k : Nat) (hk : k < l.length) : ItAt w b (o + k * 5) l[k] :=
  ⟨h.at k hk 0 _ rfl, h.at k hk 1 _ rfl, h.at k hk 2 _ rfl, h.at k hk 3 _ rfl, h.at k hk 4 _ rfl⟩
theorem ls_wn {w : World} {b o : Nat} {l : List Wn} (h : LsAt wE w (some ⟨b, o, none⟩) l) (k : Nat) (hk : k < l.length) : WnAt w b (o + k * 3) l[k] :=
  ⟨h.at k hk 0 _ rfl, h.at k hk 1 _ rfl, h.at k hk 2 _ rfl⟩
/-- A row of items, of wants, of the call's own. -/
def Ir (w : World) (base : Nat) (v : Value) (l : List It) : Prop := Lr iE 32 w base v l
def Wr (w : World) (base : Nat) (v : Value) (l : List Wn) : Prop := Lr wE 45 w base v l
theorem Try.infoItem : (Try.prog.info? 32).map (fun i => (i.zero, i.size, i.bytes)) = some (some (.agg #[.int .u32 0, .int .i64 0, .int .i64 0, .int .i64 0, .int .i64 0]), 5, 40) := by kernel_rfl
theorem Try.infoWant : (Try.prog.info? 45).map (fun i => (i.zero, i.size, i.bytes)) = some (some (.agg #[.int .u32 0, .int .i64 0, .int .i64 0]), 3, 24) := by kernel_rfl
/-- All that lay in w lies in w', but for the blocks X. -/
structure But (X : List Nat) (w w' : World) : Prop where
  os : w'.os = w.os
  tape : w'.tape = w.tape
  output : w'.output = w.output
  size : w.heap.size ≤ w'.heap.size
  block : ∀ k, k < w.heap.size → k ∉ X → w'.heap[k]? = w.heap[k]?
theorem But.refl (X : List Nat) (w : World) : But X w w := ⟨rfl, rfl, rfl, Nat.le_refl _, fun _ _ _ => rfl⟩
theorem But.trans {X : List Nat} {a b c : World} (h : But X a b) (k : But X b c) : But X a c :=
  ⟨k.os.trans h.os, k.tape.trans h.tape, k.output.trans h.output, Nat.le_trans h.size k.size, fun i hi hX => (k.block i (Nat.lt_of_lt_of_le hi h.size) hX).trans (h.block i hi hX)⟩
theorem But.of_below {X : List Nat} {w w' : World} (h : Below w.heap.size w w') : But X w w' := ⟨h.os, h.tape, h.output, h.size, fun k hk _ => h.block k hk⟩
theorem But.of_kept {X : List Nat} {R : Nat} {w w' : World} (h : Kept R w w') (hR : R ∈ X) : But X w w' := ⟨h.os, h.tape, h.output, h.size, fun k hk hX => h.block k hk (fun e => hX (e ▸ hR))⟩
theorem But.of_grown {X : List Nat} {row : Option Nat} {w w' : World} (h : w.grownBy w' row) (hR : ∀ g, row = some g → g < w.heap.size → g ∈ X) : But X w w' :=
  ⟨h.os, h.tape, h.output, h.size, fun k hk hX => h.block k hk (fun e => hX (hR k e.symm hk))⟩
theorem But.set {X : List Nat} (w : World) (R i : Nat) (v : Value) (hR : R ∈ X) : But X w (w.setCell ⟨R, i, none⟩ v) := But.of_kept (Kept.set w i v) hR
theorem But.below {X : List Nat} {B : Nat} {w w' : World} (h : But X w w') (hX : ∀ k, k ∈ X → B ≤ k) (hB : B ≤ w.heap.size) : Below B w w' :=
  ⟨h.os, h.tape, h.output, h.size, fun k hk => h.block k (by omega) (fun e => by have := hX k e; omega)⟩
/-- Fewer blocks, or more. -/
theorem But.mono {X Y : List Nat} {w w' : World} (h : But X w w') (hX : ∀ k, k ∈ X → k < w.heap.size → k ∈ Y) : But Y w w' :=
  ⟨h.os, h.tape, h.output, h.size, fun k hk hY => h.block k hk (fun e => hY (hX k e hk))⟩
/-- From an earlier world on. -/
theorem But.from {X Y : List Nat} {a b c : World} (h : But X a b) (k : But Y b c) (hY : ∀ i, i ∈ Y → i < a.heap.size → i ∈ X) : But X a c :=
  ⟨k.os.trans h.os, k.tape.trans h.tape, k.output.trans h.output, Nat.le_trans h.size k.size, fun i hi hX => (k.block i (Nat.lt_of_lt_of_le hi h.size) (fun e => hX (hY i e hi))).trans (h.block i hi hX)⟩
theorem ir_push {W : World} {base : Nat} {v : Value} {q : Nat} {l : List It} {a : It} (ty : TypeId) (h : Ir W base v l) (ha : ItAt W q 0 a) (hm : l.length ≤ 100000) (hbase : base ≤ W.heap.size) :
    ∃ v' W', (Builtin.append_ #[27, 27] ty #[v, .slice (some ⟨q, 0, none⟩) 1 1]).run Try.prog W = .ok v' W' ∧ Ir W' base v' (l ++ [a]) ∧ W.grownBy W' v.ownBlock ∧ (v'.ownBlock = v.ownBlock ∨ v'.ownBlock = some W.heap.size) := by
  obtain ⟨i0, hi, hz0, hz1, hz2⟩ := info_parts Try.infoItem
  exact Lr.push ty Try.underlying27 hi hz0 hz1 hz2 rfl h ha.el hm (by decide) hbase
theorem wr_push {W : World} {base : Nat} {v : Value} {q : Nat} {l : List Wn} {a : Wn} (ty : TypeId) (h : Wr W base v l) (ha : WnAt W q 0 a) (hm : l.length ≤ 100000) (hbase : base ≤ W.heap.size) :
    ∃ v' W', (Builtin.append_ #[41, 41] ty #[v, .slice (some ⟨q, 0, none⟩) 1 1]).run Try.prog W = .ok v' W' ∧ Wr W' base v' (l ++ [a]) ∧ W.grownBy W' v.ownBlock ∧ (v'.ownBlock = v.ownBlock ∨ v'.ownBlock = some W.heap.size) := by
  obtain ⟨i0, hi, hz0, hz1, hz2⟩ := info_parts Try.infoWant
  exact Lr.push ty Try.underlying41 hi hz0 hz1 hz2 rfl h ha.el hm (by decide) hbase
theorem ir_put {W : World} {base g m cap s q : Nat} {l : List It} {a : It} (ty : TypeId) (h : Ir W base (.slice (some ⟨g, 0, none⟩) m cap) l) (ha : ItAt W q 0 a) (hs : s < l.length) :
    ∃ W', (Builtin.append_ #[27, 27] ty #[.slice (some ⟨g, 0, none⟩) s cap, .slice (some ⟨q, 0, none⟩) 1 1]).run Try.prog W = .ok (.slice (some ⟨g, 0, none⟩) (s + 1) cap) W' ∧ Ir W' base (.slice (some ⟨g, 0, none⟩) m cap) (l.set s a) ∧ Kept g W W' := by
  obtain ⟨i0, hi, hz0, hz1, hz2⟩ := info_parts Try.infoItem
  exact Lr.put ty Try.underlying27 hi hz1 h ha.el hs
/-- The pointer B leads to a Queue: its row of items. -/
structure QAt (w : World) (base B : Nat) (v : Value) (l : List It) : Prop where
  c0 : w.cell? ⟨B, 0, none⟩ = some v
  thaw : w.frozen? ⟨B, 0, none⟩ = false
  row : Ir w base v l
  ne : v.ownBlock ≠ some B
  base : base ≤ B
/-- The blocks of a Queue. -/
def feet (B : Nat) (v : Value) : List Nat := B :: v.ownBlock.toList
theorem QAt.lt {w : World} {base B : Nat} {v : Value} {l : List It} (h : QAt w base B v l) : B < w.heap.size := cell_lt h.c0
theorem mem_feet {B k : Nat} {v : Value} : k ∈ feet B v ↔ k = B ∨ v.ownBlock = some k := by
  unfold feet
  cases v.ownBlock with
  | none => simp
  | some g => simp [eq_comm]
theorem QAt.feet {w : World} {base B k : Nat} {v : Value} {l : List It} (h : QAt w base B v l) (hk : k ∈ feet B v) : base ≤ k ∧ k < w.heap.size := by
  rcases mem_feet.1 hk with rfl | e
  · exact ⟨h.base, h.lt⟩
  · exact Lr.lt h.row k e
theorem QAt.block {w w' : World} {base B : Nat} {v : Value} {l : List It} (h : QAt w base B v l) (hb : ∀ k, k ∈ Go.Proofs.Ytaikkoijoolhkaa.feet B v → w'.heap[k]? = w.heap[k]?) : QAt w' base B v l :=
  ⟨(World.cell?_of_block (a := ⟨B, 0, none⟩) (hb B (mem_feet.2 (.inl rfl)))).trans h.c0, (World.frozen?_of_block (a := ⟨B, 0, none⟩) (hb B (mem_feet.2 (.inl rfl)))).trans h.thaw, Lr.block h.row (fun g e => hb g (mem_feet.2 (.inr e))), h.ne, h.base⟩
theorem QAt.grew {w w' : World} {base B : Nat} {v : Value} {l : List It} (h : QAt w base B v l) (hb : Below w.heap.size w w') : QAt w' base B v l := h.block fun k hk => hb.block k (h.feet hk).2
/-- What is done elsewhere leaves it. -/
theorem QAt.but {X : List Nat} {w w' : World} {base B : Nat} {v : Value} {l : List It} (h : QAt w base B v l) (hb : But X w w') (hX : ∀ k, k ∈ Go.Proofs.Ytaikkoijoolhkaa.feet B v → k ∉ X) : QAt w' base B v l := h.block fun k hk => hb.block k (h.feet hk).2 (hX k hk)
end Go.Proofs.Ytaikkoijoolhkaa

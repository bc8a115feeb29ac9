/-
  Several texts, one behind the other.
-/
import Derived.Test.YthlidbenhlidjaaJ1
import Derived.Test.YthlidbenhlidjaaJ3
import Derived.Test.YthlidbenhlidjaaJ2
import Derived.OrdersHeld
import Derived.Deep.RegionHeld
/-
  A row of bytes of the call's own, appended to.
-/
namespace Go.Proofs.Ythlidbenhlidjaa
open Go.RowKit Go.Deep

/-- A row of the call's own, of n bytes x. -/
def Ror (w : World) (base : Nat) (v : Value) (n : Nat) (x : Nat → Nat) : Prop := w.ownsRow base 5 1 v n (cellsAt x 0 n)

theorem Ror.nil (w : World) (base : Nat) (x : Nat → Nat) : Ror w base (.slice none 0 0) 0 x := ⟨rfl, .inl ⟨rfl, rfl⟩⟩

theorem Ror.push {W : World} {base : Nat} {v : Value} {n m c : Nat} {x y z : Nat → Nat} {a : Option Addr} (ty : TypeId) (h : Ror W base v n x) (hy : BytesAt W a m y) (hn : n + m ≤ 1000000) (hbase : base ≤ W.heap.size) (h1 : ∀ i, i < n → x i = z i) (h2 : ∀ i, i < m → y i = z (n + i)) :
    ∃ v' W', (Builtin.append_ #[26, 26] ty #[v, .slice a m c]).run Try.prog W = .ok v' W' ∧ Ror W' base v' (n + m) z ∧ W.grownBy W' v.ownBlock := by
  obtain ⟨i0, hi, hz0, hz1, hz2⟩ := info_parts Try.infoByte
  have e : cellsAt x 0 n ++ cellsAt y 0 m = cellsAt z 0 (n + m) := by
    rw [cat_cells]
    unfold cellsAt
    refine List.map_congr_left fun i hi => ?_
    have hi := List.mem_range.1 hi
    rw [Nat.zero_add]
    unfold cat
    by_cases g : i < n
    · rw [if_pos g, h1 i g]
    · rw [if_neg g, h2 (i - n) (by omega), show n + (i - n) = i by omega]
  cases a with
  | some a =>
    obtain ⟨v', W', hr, hown, hgr, -, -⟩ := run_append_own_at (P := Try.prog) W base 26 ty 5 i0 (.int .u8 0) 1 1 Try.underlying26 hi hz0 hz1 hz2 rfl (by decide) v n _ h a m c (cellsAt y 0 m) (by rw [cellsAt_len, Nat.mul_one])
      (fun j u hj => by
        obtain ⟨hjn, rfl⟩ := cellsAt_get _ _ _ _ _ hj
        obtain ⟨b, o, e, hc⟩ := hy.cells (by omega)
        cases e
        rw [Addr.add_mid, Nat.zero_add]
        exact hc j hjn) (cellsAt_one _ _ _) (by unfold maxLen; omega) (by omega) hbase
    rw [e] at hown
    exact ⟨v', W', hr, hown, hgr⟩
  | none =>
    obtain rfl : m = 0 := by
      by_cases g : 0 < m
      · obtain ⟨b, o, e, -⟩ := hy.cells g
        cases e
      · omega
    refine ⟨v, W, ?_, ?_, ⟨rfl, rfl, rfl, Nat.le_refl _, fun _ _ _ => rfl⟩⟩
    · rcases h.2 with ⟨rfl, rfl⟩ | ⟨g, cap, cur, rfl, _, _, hnc, _⟩
      · simp [Builtin.append_, run_underlying Try.underlying26, sizeOf, typeInfo, hi, Builtin.lenOf, Builtin.firstCells]
      · simp [Builtin.append_, run_underlying Try.underlying26, sizeOf, typeInfo, hi, Builtin.lenOf, Builtin.firstCells, hnc, storeCells]
    · show W.ownsRow _ _ _ _ _ _
      rw [← e]
      have h' : W.ownsRow base 5 1 v n (cellsAt x 0 n) := h
      simpa [cellsAt] using h'

theorem Ror.congr {w : World} {base : Nat} {v : Value} {n : Nat} {x y : Nat → Nat} (h : Ror w base v n x) (e : ∀ i, i < n → x i = y i) : Ror w base v n y := by
  have h' : w.ownsRow base 5 1 v n (cellsAt x 0 n) := h
  have hc : cellsAt x 0 n = cellsAt y 0 n := by
    unfold cellsAt
    refine List.map_congr_left fun i hi => ?_
    rw [Nat.zero_add, e i (List.mem_range.1 hi)]
  rw [hc] at h'
  exact h'
theorem Ror.grown {w w' : World} {base : Nat} {v : Value} {n : Nat} {x : Nat → Nat} (h : Ror w base v n x) (hb : Below w.heap.size w w') : Ror w' base v n x := by
  have h' : w.ownsRow base 5 1 v n (cellsAt x 0 n) := h
  refine h'.kept (row := none) ⟨hb.os, hb.tape, hb.output, hb.size, fun k hk _ => hb.block k hk⟩ ?_
  cases e : v.ownBlock with
  | none => exact .inl rfl
  | some g => exact .inr (by simp)

theorem Ror.lt {w : World} {base : Nat} {v : Value} {n : Nat} {x : Nat → Nat} (h : Ror w base v n x) : ∀ g, v.ownBlock = some g → base ≤ g ∧ g < w.heap.size := fun g e => World.ownsRow.lt h g e
theorem ror_form {w : World} {base : Nat} {v : Value} {n : Nat} {x : Nat → Nat} (h : Ror w base v n x) (hn : 0 < n) : ∃ g cap, v = .slice (some ⟨g, 0, none⟩) n cap := by
  rcases h.2 with ⟨_, h0⟩ | ⟨g, cap, _, hv, _⟩
  · omega
  · exact ⟨g, cap, hv⟩
theorem ror_cap {w : World} {base g n cap : Nat} {x : Nat → Nat} (h : Ror w base (.slice (some ⟨g, 0, none⟩) n cap) n x) : n ≤ cap := by
  rcases h.2 with ⟨e, _⟩ | ⟨g', cap', _, hv, _, _, hc, _⟩
  · cases e
  · cases hv
    exact hc
theorem ror_bytes {w : World} {base g n cap : Nat} {x : Nat → Nat} (h : Ror w base (.slice (some ⟨g, 0, none⟩) n cap) n x) (hx : ∀ i, i < n → x i < 256) : BytesAt w (some ⟨g, 0, none⟩) n x := by
  obtain ⟨g', c', e, -, -, hb, -⟩ := own_at h (by simp) hx
  cases e
  exact hb
theorem ror_any {w : World} {base : Nat} {v : Value} {n : Nat} {x : Nat → Nat} (h : Ror w base v n x) (hx : ∀ i, i < n → x i < 256) :
    ∃ r cap, v = .slice r n cap ∧ n ≤ cap ∧ cap ≤ maxLen ∧ (0 < n → ∃ g, r = some ⟨g, 0, none⟩ ∧ base ≤ g) ∧ BytesAt w r n x := by
  rcases h.2 with ⟨rfl, rfl⟩ | ⟨g, cap, cur, rfl, hb, hh, hle, hm, hs, ht⟩
  · exact ⟨none, 0, rfl, Nat.le_refl _, Nat.zero_le _, fun h => absurd h (by omega), ⟨fun h => absurd h (by omega), fun i hi => absurd hi (by omega)⟩⟩
  · exact ⟨_, cap, rfl, hle, hm, fun _ => ⟨g, rfl, hb⟩, ror_bytes h hx⟩
/-- []byte{} -/
theorem Ror.empty (w : World) (base : Nat) (x : Nat → Nat) (h : base ≤ w.heap.size) : Ror (w.alloc (.cells #[] 5)) base (.slice (some ⟨w.heap.size, 0, none⟩) 0 0) 0 x := by
  refine ⟨rfl, .inr ⟨w.heap.size, 0, #[], rfl, h, (by show (w.heap.push _)[w.heap.size]? = _; simp), Nat.le_refl _, Nat.zero_le _, rfl, rfl⟩⟩
/-- What has grown lies behind what lay there. -/
theorem grown_below {w W W' : World} {base : Nat} {v : Value} {n : Nat} {x : Nat → Nat} (h : Ror W base v n x) (hg : W.grownBy W' v.ownBlock) (hb : Below base w W) (hs : base ≤ W.heap.size) : Below base w W' :=
  hb.trans ⟨hg.os, hg.tape, hg.output, hg.size, fun k hk => hg.block k (by omega) (fun e => by have := (h.lt k e.symm).1; omega)⟩
end Go.Proofs.Ythlidbenhlidjaa

/-
  Bytes of numbers in memory: rows that are put together, parts of rows, what stays where another cell is written.
-/
namespace Go.Proofs.Ythlidbenhlidjaa
open Go.RowKit Go.Deep

/-- A row of bytes stays where a slice is written over a slice. -/
theorem BytesAt.setSlice {w : World} {a : Option Addr} {n R i : Nat} {x : Nat → Nat} {r : Option Addr} {m c : Nat} {v : Value} (h : BytesAt w a n x) (hc : w.cell? ⟨R, i, none⟩ = some (.slice r m c)) : BytesAt (w.setCell ⟨R, i, none⟩ v) a n x := by
  refine ⟨fun hn => ?_, h.lt⟩
  obtain ⟨b, o, e, hx⟩ := h.cells hn
  refine ⟨b, o, e, fun j hj => ?_⟩
  have h1 := hx j hj
  rw [World.cell?_setCell_other _ _ _ _ (fun e => by rw [e, h1] at hc; cases hc)]
  exact h1
/-- A row of bytes stays where a number of another kind is written over such a one. -/
theorem BytesAt.setNum {w : World} {a : Option Addr} {n R i : Nat} {x : Nat → Nat} {k : IntKind} {z : Int} {v : Value} (h : BytesAt w a n x) (hc : w.cell? ⟨R, i, none⟩ = some (.int k z)) (hk : k ≠ .u8) : BytesAt (w.setCell ⟨R, i, none⟩ v) a n x := by
  refine ⟨fun hn => ?_, h.lt⟩
  obtain ⟨b, o, e, hx⟩ := h.cells hn
  refine ⟨b, o, e, fun j hj => ?_⟩
  have h1 := hx j hj
  rw [World.cell?_setCell_other _ _ _ _ (fun e => by rw [e, h1] at hc; cases hc; exact hk rfl)]
  exact h1
theorem cat_left {x y : Nat → Nat} {n i : Nat} (h : i < n) : cat x y n i = x i := if_pos h
theorem one_byte (w : World) (d : Nat) (t : TypeId) (h : d < 256) : BytesAt (w.alloc (.cells #[.int .u8 (d : Int)] t)) (some ⟨w.heap.size, 0, none⟩) 1 (fun _ => d) := by
  refine ⟨fun _ => ⟨_, 0, rfl, fun i hi => ?_⟩, fun _ _ => h⟩
  obtain rfl : i = 0 := by omega
  simp
theorem blk_ne {b b' o o' : Nat} (h : b ≠ b') : (⟨b, o, none⟩ : Addr) ≠ ⟨b', o', none⟩ := fun e => h (Addr.mk.inj e).1
/-- A new row of n bytes, as one of the call's own. -/
theorem ror_made {w : World} {base g n : Nat} {x : Nat → Nat} (h : w.rowIs g 5 n (byteAt x)) (hb : base ≤ g) (hn : n ≤ maxLen) : Ror w base (.slice (some ⟨g, 0, none⟩) n n) n x := by
  obtain ⟨c, hc, hs, hx⟩ := h
  refine ⟨by rw [cellsAt_len, Nat.mul_one], .inr ⟨g, n, c, rfl, hb, hc, Nat.le_refl _, hn, by rw [hs, Nat.mul_one], ?_⟩⟩
  rw [Nat.mul_one]
  refine List.ext_getElem? fun i => ?_
  by_cases hi : i < n
  · rw [List.getElem?_take_of_lt hi, Array.getElem?_toList, hx i hi]
    simp [cellsAt, hi, byteAt]
  · rw [List.getElem?_eq_none (by simp; omega), List.getElem?_eq_none (by rw [cellsAt_len]; omega)]

set_option maxRecDepth 100000 in
/-- What is left of a slice behind its first l bytes. -/
theorem slice_left (a : Option Addr) (n c l : Nat) (x : Nat → Nat) (w : World) (hx : BytesAt w a n x) (h0 : 1 ≤ n) (h1 : l ≤ n) (h2 : n ≤ c) :
    ∃ a', (∀ W, (Instr.slice 26 (.slice a n c) (some (.int .i64 (l : Int))) none none).run Try.prog W = .ok (.slice a' (n - l) (c - l)) W) ∧ BytesAt w a' (n - l) (fun i => x (l + i)) := by
  obtain ⟨b, o, rfl⟩ := bytes_some hx h0
  by_cases h : l < n
  · refine ⟨some ⟨b, o + l, none⟩, fun W => slice_from b o n c l W h h2, ?_⟩
    rw [show n = l + (n - l) by omega] at hx
    exact hx.drop
  · obtain rfl : l = n := by omega
    refine ⟨if c = l then some ⟨b, o, none⟩ else some ⟨b, o + l, none⟩, fun W => ?_, ?_⟩
    · have e := run_slice_l (P := Try.prog) W 26 (some ⟨b, o, none⟩) l c Try.underlying26 .i64 (l : Int) (by omega) (by omega)
      rw [e]
      have hs : (sizeOf (Try.prog.elem 26)).run Try.prog W = .ok 1 W := by kernel_rfl
      rw [hs]
      have hz : (⟨b, o, none⟩ : Addr).add l = ⟨b, o + l, none⟩ := by unfold Addr.add; split <;> simp_all
      simp only [Result.andThen, sliced, Int.toNat_natCast, Nat.mul_one, Option.map_some, hz]
    · rw [Nat.sub_self]
      exact ⟨fun h => absurd h (by omega), fun i hi => absurd hi (by omega)⟩

set_option maxRecDepth 100000 in
theorem slice_span (b o n c lo hi : Nat) (w : World) (h1 : lo ≤ hi) (h2 : hi ≤ c) (h3 : lo < c) : (Instr.slice 26 (.slice (some ⟨b, o, none⟩) n c) (some (.int .i64 (lo : Int))) (some (.int .i64 (hi : Int))) none).run Try.prog w = .ok (.slice (some ⟨b, o + lo, none⟩) (hi - lo) (c - lo)) w := by
  have e := run_slice_lh (P := Try.prog) w 26 (some ⟨b, o, none⟩) n c Try.underlying26 .i64 .i64 (lo : Int) (hi : Int) (by omega) (by omega) (by omega)
  rw [e]
  have hs : (sizeOf (Try.prog.elem 26)).run Try.prog w = .ok 1 w := by kernel_rfl
  rw [hs]
  have hz : (⟨b, o, none⟩ : Addr).add lo = ⟨b, o + lo, none⟩ := by unfold Addr.add; split <;> simp_all
  simp only [Result.andThen, sliced, Int.toNat_natCast, Nat.mul_one, Option.map_some, hz]
  rw [if_neg (by omega)]
theorem BytesAt.span {w : World} {b o n lo m : Nat} {x : Nat → Nat} (h : BytesAt w (some ⟨b, o, none⟩) n x) (hn : lo + m ≤ n) : BytesAt w (some ⟨b, o + lo, none⟩) m (fun i => x (lo + i)) := (h.take (m := lo + m) hn).drop
/-- Under more than is asked. -/
theorem wpAnyH_mono {P : Program} {md : Region.Mode} {ops : Array Oper} {Q : Exit → Act → World → Prop} {S S' : World → Prop} (h : ∀ w, S' w → S w) : ∀ (fuel : Nat) (listed : Array Bool) (a : Act) (w : World), wpAnyH P md ops Q S' fuel listed a w → wpAnyH P md ops Q S fuel listed a w
  | 0, _, _, _, hh => hh
  | fuel + 1, _, _, _, hh => ⟨hh.1, fun i hi => wpOp_mono (fun a' w' h' => ⟨h _ h'.1, wpAnyH_mono h fuel _ a' w' h'.2⟩) (hh.2 i hi)⟩
end Go.Proofs.Ythlidbenhlidjaa

/-
  A symbol's data in memory, and as bytes.
-/
namespace Go.Proofs.Ythlidbenhlidjaa
open Go.RowKit Go.Deep

/-- The block B holds data: Seq s, Stamp t, Frame f, Symbol y, Body (a, n, c). -/
structure DatAt (w : World) (B s t f y : Nat) (a : Option Addr) (n c : Nat) : Prop where
  c0 : w.cell? ⟨B, 0, none⟩ = some (.int .u16 (s : Int))
  c1 : w.cell? ⟨B, 1, none⟩ = some (.int .u16 (t : Int))
  c2 : w.cell? ⟨B, 2, none⟩ = some (.int .u32 (f : Int))
  c3 : w.cell? ⟨B, 3, none⟩ = some (.int .u16 (y : Int))
  c4 : w.cell? ⟨B, 4, none⟩ = some (.slice a n c)
  frz : ∀ i, w.frozen? ⟨B, i, none⟩ = false
theorem DatAt.made (w : World) (T : TypeId) (s t f y : Nat) (a : Option Addr) (n c : Nat) :
    DatAt (w.alloc (.cells #[.int .u16 (s : Int), .int .u16 (t : Int), .int .u32 (f : Int), .int .u16 (y : Int), .slice a n c] T)) w.heap.size s t f y a n c :=
  ⟨by rw [World.cell?_alloc_at _ _ _ _ rfl]; rfl, by rw [World.cell?_alloc_at _ _ _ _ rfl]; rfl, by rw [World.cell?_alloc_at _ _ _ _ rfl]; rfl, by rw [World.cell?_alloc_at _ _ _ _ rfl]; rfl, by rw [World.cell?_alloc_at _ _ _ _ rfl]; rfl,
   fun i => by rw [World.frozen?_alloc_at _ _ _ _ rfl]⟩
theorem DatAt.lt {w : World} {B s t f y : Nat} {a : Option Addr} {n c : Nat} (h : DatAt w B s t f y a n c) : B < w.heap.size := cell_lt h.c0
theorem DatAt.grew {w w' : World} {B s t f y : Nat} {a : Option Addr} {n c : Nat} (h : DatAt w B s t f y a n c) (hb : Below w.heap.size w w') : DatAt w' B s t f y a n c :=
  ⟨(hb.cell (p := ⟨B, 0, none⟩) h.lt).trans h.c0, (hb.cell (p := ⟨B, 1, none⟩) h.lt).trans h.c1, (hb.cell (p := ⟨B, 2, none⟩) h.lt).trans h.c2, (hb.cell (p := ⟨B, 3, none⟩) h.lt).trans h.c3, (hb.cell (p := ⟨B, 4, none⟩) h.lt).trans h.c4,
   fun i => (World.frozen?_of_block (a := ⟨B, i, none⟩) (hb.block B h.lt)).trans (h.frz i)⟩
theorem DatAt.seq {w : World} {B s t f y : Nat} {a : Option Addr} {n c : Nat} (h : DatAt w B s t f y a n c) (s' : Nat) : DatAt (w.setCell ⟨B, 0, none⟩ (.int .u16 (s' : Int))) B s' t f y a n c := by
  exact ⟨World.cell?_setCell_same _ _ _ h.c0, (World.cell?_setCell_other _ _ _ _ (by simp)).trans h.c1, (World.cell?_setCell_other _ _ _ _ (by simp)).trans h.c2, (World.cell?_setCell_other _ _ _ _ (by simp)).trans h.c3, (World.cell?_setCell_other _ _ _ _ (by simp)).trans h.c4, fun i => by rw [World.frozen?_setCell]; exact h.frz i⟩
theorem DatAt.stamp {w : World} {B s t f y : Nat} {a : Option Addr} {n c : Nat} (h : DatAt w B s t f y a n c) (t' : Nat) : DatAt (w.setCell ⟨B, 1, none⟩ (.int .u16 (t' : Int))) B s t' f y a n c := by
  exact ⟨(World.cell?_setCell_other _ _ _ _ (by simp)).trans h.c0, World.cell?_setCell_same _ _ _ h.c1, (World.cell?_setCell_other _ _ _ _ (by simp)).trans h.c2, (World.cell?_setCell_other _ _ _ _ (by simp)).trans h.c3, (World.cell?_setCell_other _ _ _ _ (by simp)).trans h.c4, fun i => by rw [World.frozen?_setCell]; exact h.frz i⟩
theorem DatAt.frame {w : World} {B s t f y : Nat} {a : Option Addr} {n c : Nat} (h : DatAt w B s t f y a n c) (f' : Nat) : DatAt (w.setCell ⟨B, 2, none⟩ (.int .u32 (f' : Int))) B s t f' y a n c := by
  exact ⟨(World.cell?_setCell_other _ _ _ _ (by simp)).trans h.c0, (World.cell?_setCell_other _ _ _ _ (by simp)).trans h.c1, World.cell?_setCell_same _ _ _ h.c2, (World.cell?_setCell_other _ _ _ _ (by simp)).trans h.c3, (World.cell?_setCell_other _ _ _ _ (by simp)).trans h.c4, fun i => by rw [World.frozen?_setCell]; exact h.frz i⟩
theorem DatAt.symbol {w : World} {B s t f y : Nat} {a : Option Addr} {n c : Nat} (h : DatAt w B s t f y a n c) (y' : Nat) : DatAt (w.setCell ⟨B, 3, none⟩ (.int .u16 (y' : Int))) B s t f y' a n c := by
  exact ⟨(World.cell?_setCell_other _ _ _ _ (by simp)).trans h.c0, (World.cell?_setCell_other _ _ _ _ (by simp)).trans h.c1, (World.cell?_setCell_other _ _ _ _ (by simp)).trans h.c2, World.cell?_setCell_same _ _ _ h.c3, (World.cell?_setCell_other _ _ _ _ (by simp)).trans h.c4, fun i => by rw [World.frozen?_setCell]; exact h.frz i⟩
theorem DatAt.body {w : World} {B s t f y : Nat} {a : Option Addr} {n c : Nat} (h : DatAt w B s t f y a n c) (r : Option Addr) (m d : Nat) : DatAt (w.setCell ⟨B, 4, none⟩ (.slice r m d)) B s t f y r m d := by
  exact ⟨(World.cell?_setCell_other _ _ _ _ (by simp)).trans h.c0, (World.cell?_setCell_other _ _ _ _ (by simp)).trans h.c1, (World.cell?_setCell_other _ _ _ _ (by simp)).trans h.c2, (World.cell?_setCell_other _ _ _ _ (by simp)).trans h.c3, World.cell?_setCell_same _ _ _ h.c4, fun i => by rw [World.frozen?_setCell]; exact h.frz i⟩
theorem DatAt.other {w : World} {B s t f y : Nat} {a : Option Addr} {n c : Nat} (h : DatAt w B s t f y a n c) {R i : Nat} (v : Value) (hne : R ≠ B) : DatAt (w.setCell ⟨R, i, none⟩ v) B s t f y a n c := by
  have e : ∀ j, (⟨R, i, none⟩ : Addr) ≠ ⟨B, j, none⟩ := fun j e => hne (Addr.mk.inj e).1
  exact ⟨(World.cell?_setCell_other _ _ _ _ (e _)).trans h.c0, (World.cell?_setCell_other _ _ _ _ (e _)).trans h.c1, (World.cell?_setCell_other _ _ _ _ (e _)).trans h.c2, (World.cell?_setCell_other _ _ _ _ (e _)).trans h.c3, (World.cell?_setCell_other _ _ _ _ (e _)).trans h.c4, fun i => by rw [World.frozen?_setCell]; exact h.frz i⟩

/-- The bytes that data are. -/
def laid (s t f y : Nat) (x : Nat → Nat) : Nat → Nat := cat (cat (cat (cat (cat (fun _ => 0) (high s 2) 0) (high t 2) 2) (high f 4) 4) (high y 2) 8) x 10
theorem laid_lt {s t f y n : Nat} {x : Nat → Nat} (hx : ∀ i, i < n → x i < 256) (i : Nat) (hi : i < 10 + n) : laid s t f y x i < 256 := by
  unfold laid cat
  repeat' split
  all_goals first | exact high_lt _ _ _ | exact hx _ (by omega) | omega
theorem laid_seq (s t f y : Nat) (x : Nat → Nat) (i : Nat) (h : i < 2) : laid s t f y x i = high s 2 i := by
  unfold laid cat
  rw [if_pos (by omega), if_pos (by omega), if_pos (by omega), if_pos (by omega), if_neg (by omega)]; rfl
theorem laid_stamp (s t f y : Nat) (x : Nat → Nat) (i : Nat) (h : i < 2) : laid s t f y x (2 + i) = high t 2 i := by
  unfold laid cat
  rw [if_pos (by omega), if_pos (by omega), if_pos (by omega), if_neg (by omega), Nat.add_sub_cancel_left]
theorem laid_frame (s t f y : Nat) (x : Nat → Nat) (i : Nat) (h : i < 4) : laid s t f y x (4 + i) = high f 4 i := by
  unfold laid cat
  rw [if_pos (by omega), if_pos (by omega), if_neg (by omega), Nat.add_sub_cancel_left]
theorem laid_symbol (s t f y : Nat) (x : Nat → Nat) (i : Nat) (h : i < 2) : laid s t f y x (8 + i) = high y 2 i := by
  unfold laid cat
  rw [if_pos (by omega), if_neg (by omega), Nat.add_sub_cancel_left]
theorem laid_body (s t f y : Nat) (x : Nat → Nat) (i : Nat) : laid s t f y x (10 + i) = x i := by
  unfold laid cat
  rw [if_neg (by omega), Nat.add_sub_cancel_left]

/-- Which bodies may be. -/
def fitB (n : Nat) : Bool := decide (1 ≤ n ∧ n ≤ 64)
/-- How many bytes Put tells, and its error. -/
def putN (n : Nat) : Nat := if fitB n then 10 + n else 0
def putE (n : Nat) : Nat := if fitB n then 0 else 4
theorem fit_yes {n : Nat} (h1 : 1 ≤ n) (h2 : n ≤ 64) : fitB n = true := decide_eq_true ⟨h1, h2⟩
theorem fit_no {n : Nat} (h : ¬ (1 ≤ n ∧ n ≤ 64)) : fitB n = false := decide_eq_false h
theorem put_fit {n : Nat} (h : fitB n = true) : putN n = 10 + n ∧ putE n = 0 := by unfold putN putE; rw [h]; exact ⟨rfl, rfl⟩
theorem put_unfit {n : Nat} (h : fitB n = false) : putN n = 0 ∧ putE n = 4 := by unfold putN putE; rw [h]; exact ⟨rfl, rfl⟩
/-- k bytes z in new memory, and the error E, were answered. -/
def PutIs (w : World) (k : Nat) (z : Nat → Nat) (E : Nat) (e : Ending) (w' : World) : Prop :=
  ∃ r c, e = .returned (.tuple #[.slice r k c, .int .i64 (E : Int)]) ∧ k ≤ c ∧ (0 < k → ∃ g, r = some ⟨g, 0, none⟩ ∧ w.heap.size ≤ g) ∧ BytesAt w' r k z ∧ Below w.heap.size w w'
theorem PutIs.no {w w' : World} {z : Nat → Nat} (h : Below w.heap.size w w') : PutIs w 0 z 4 (.returned (.tuple #[.slice none 0 0, .int .i64 4])) w' :=
  ⟨none, 0, rfl, Nat.le_refl _, fun h => absurd h (by omega), nil_bytes _ _, h⟩

/-- May n bytes be data? What they tell. -/
def tkB (n : Nat) : Bool := decide (11 ≤ n ∧ n ≤ 74)
def tkV (n v : Nat) : Nat := if tkB n then v else 0
def tkE (n : Nat) : Nat := if tkB n then 0 else 2
theorem tk_yes {n : Nat} (h1 : 11 ≤ n) (h2 : n ≤ 74) : tkB n = true := decide_eq_true ⟨h1, h2⟩
theorem tk_no {n : Nat} (h : ¬ (11 ≤ n ∧ n ≤ 74)) : tkB n = false := decide_eq_false h
theorem tkV_yes {n v : Nat} (h : tkB n = true) : tkV n v = v := by unfold tkV; rw [h]; rfl
theorem tkV_no {n v : Nat} (h : tkB n = false) : tkV n v = 0 := by unfold tkV; rw [h]; rfl
/-- Data, its body of k bytes z in new memory, and the error E, were answered. -/
def DatIs (w : World) (s t f y k : Nat) (z : Nat → Nat) (E : Nat) (e : Ending) (w' : World) : Prop :=
  ∃ r c, e = .returned (.tuple #[.agg #[.int .u16 (s : Int), .int .u16 (t : Int), .int .u32 (f : Int), .int .u16 (y : Int), .slice r k c], .int .i64 (E : Int)]) ∧ k ≤ c ∧ (0 < k → ∃ g, r = some ⟨g, 0, none⟩ ∧ w.heap.size ≤ g) ∧ BytesAt w' r k z ∧ Below w.heap.size w w'
/-- What n bytes x are taken as. -/
def TakeIs (w : World) (n : Nat) (x : Nat → Nat) (e : Ending) (w' : World) : Prop :=
  DatIs w (tkV n (Crc.numTo x 2)) (tkV n (Crc.numTo (fun i => x (2 + i)) 2)) (tkV n (Crc.numTo (fun i => x (4 + i)) 4)) (tkV n (Crc.numTo (fun i => x (8 + i)) 2)) (tkV n (n - 10)) (fun i => x (10 + i)) (tkE n) e w'
theorem TakeIs.no {w w' : World} {n : Nat} {x : Nat → Nat} (h : ¬ (11 ≤ n ∧ n ≤ 74)) (hb : Below w.heap.size w w') : TakeIs w n x (.returned (.tuple #[.agg #[.int .u16 0, .int .u16 0, .int .u32 0, .int .u16 0, .slice none 0 0], .int .i64 2])) w' := by
  have e := tk_no h
  unfold TakeIs tkE
  rw [tkV_no e, tkV_no e, tkV_no e, tkV_no e, tkV_no e, e]
  exact ⟨none, 0, rfl, Nat.le_refl _, fun h => absurd h (by omega), nil_bytes _ _, hb⟩
theorem TakeIs.yes {w w' : World} {n s t f y c : Nat} {x : Nat → Nat} {r : Option Addr} (h1 : 11 ≤ n) (h2 : n ≤ 74) (hs : s = Crc.numTo x 2) (ht : t = Crc.numTo (fun i => x (2 + i)) 2) (hf : f = Crc.numTo (fun i => x (4 + i)) 4) (hy : y = Crc.numTo (fun i => x (8 + i)) 2)
    (hc : n - 10 ≤ c) (hg : ∃ g, r = some ⟨g, 0, none⟩ ∧ w.heap.size ≤ g) (hB : BytesAt w' r (n - 10) (fun i => x (10 + i))) (hb : Below w.heap.size w w') : TakeIs w n x (.returned (.tuple #[.agg #[.int .u16 (s : Int), .int .u16 (t : Int), .int .u32 (f : Int), .int .u16 (y : Int), .slice r (n - 10) c], .int .i64 0])) w' := by
  have e := tk_yes h1 h2
  unfold TakeIs tkE
  rw [tkV_yes e, tkV_yes e, tkV_yes e, tkV_yes e, tkV_yes e, e, ← hs, ← ht, ← hf, ← hy]
  exact ⟨r, c, rfl, hc, fun _ => hg, hB, hb⟩
/-- What is put is taken. -/
theorem TakeIs.ofPut {w w' : World} {n s t f y : Nat} {x : Nat → Nat} {e : Ending} (h : TakeIs w (10 + n) (laid s t f y x) e w') (n1 : 1 ≤ n) (n2 : n ≤ 64) (ls : s < 65536) (lt : t < 65536) (lf : f < 4294967296) (ly : y < 65536) : DatIs w s t f y n x 0 e w' := by
  have q := tk_yes (n := 10 + n) (by omega) (by omega)
  have hE : tkE (10 + n) = 0 := by unfold tkE; rw [q]; rfl
  unfold TakeIs at h
  rw [tkV_yes q, tkV_yes q, tkV_yes q, tkV_yes q, tkV_yes q, hE, Nat.add_sub_cancel_left,
    numTo_congr 2 (fun i hi => laid_seq s t f y x i hi), numTo_congr 2 (y := high t 2) (fun i hi => laid_stamp s t f y x i hi), numTo_congr 4 (y := high f 4) (fun i hi => laid_frame s t f y x i hi), numTo_congr 2 (y := high y 2) (fun i hi => laid_symbol s t f y x i hi),
    numTo_high s 2 ls, numTo_high t 2 lt, numTo_high f 4 lf, numTo_high y 2 ly, show (fun i => laid s t f y x (10 + i)) = x from funext fun i => laid_body s t f y x i] at h
  exact h
theorem TakeIs.none {w w' : World} {n : Nat} {x : Nat → Nat} {e : Ending} (h : TakeIs w n x e w') (hn : ¬ (11 ≤ n ∧ n ≤ 74)) : DatIs w 0 0 0 0 0 (fun i => x (10 + i)) 2 e w' := by
  have q := tk_no hn
  have hE : tkE n = 2 := by unfold tkE; rw [q]; rfl
  unfold TakeIs at h
  rw [tkV_no q, tkV_no q, tkV_no q, tkV_no q, tkV_no q, hE] at h
  exact h
theorem TakeIs.some {w w' : World} {n : Nat} {x : Nat → Nat} {e : Ending} (h : TakeIs w n x e w') (h1 : 11 ≤ n) (h2 : n ≤ 74) :
    DatIs w (Crc.numTo x 2) (Crc.numTo (fun i => x (2 + i)) 2) (Crc.numTo (fun i => x (4 + i)) 4) (Crc.numTo (fun i => x (8 + i)) 2) (n - 10) (fun i => x (10 + i)) 0 e w' := by
  have q := tk_yes h1 h2
  have hE : tkE n = 0 := by unfold tkE; rw [q]; rfl
  unfold TakeIs at h
  rw [tkV_yes q, tkV_yes q, tkV_yes q, tkV_yes q, tkV_yes q, hE] at h
  exact h
/-- The bytes of what n bytes are taken as. -/
theorem laid_taken {x : Nat → Nat} {n : Nat} (h1 : 10 ≤ n) (hx : ∀ i, i < n → x i < 256) (i : Nat) : laid (Crc.numTo x 2) (Crc.numTo (fun i => x (2 + i)) 2) (Crc.numTo (fun i => x (4 + i)) 4) (Crc.numTo (fun i => x (8 + i)) 2) (fun i => x (10 + i)) i = x i := by
  by_cases g10 : i < 10
  · by_cases g8 : i < 8
    · by_cases g4 : i < 4
      · by_cases g2 : i < 2
        · rw [laid_seq _ _ _ _ _ i g2, high_numTo (fun j hj => hx j (by omega)) g2]
        · obtain ⟨j, rfl⟩ : ∃ j, i = 2 + j := ⟨i - 2, by omega⟩
          rw [laid_stamp _ _ _ _ _ j (by omega), high_numTo (fun j hj => hx _ (by omega)) (by omega)]
      · obtain ⟨j, rfl⟩ : ∃ j, i = 4 + j := ⟨i - 4, by omega⟩
        rw [laid_frame _ _ _ _ _ j (by omega), high_numTo (fun j hj => hx _ (by omega)) (by omega)]
    · obtain ⟨j, rfl⟩ : ∃ j, i = 8 + j := ⟨i - 8, by omega⟩
      rw [laid_symbol _ _ _ _ _ j (by omega), high_numTo (fun j hj => hx _ (by omega)) (by omega)]
  · obtain ⟨j, rfl⟩ : ∃ j, i = 10 + j := ⟨i - 10, by omega⟩
    rw [laid_body]
end Go.Proofs.Ythlidbenhlidjaa

/-
  A row of data of the call's own, appended to; bodies apart from it.
-/
namespace Go.Proofs.Ythlidbenhlidjaa
open Go.RowKit Go.Deep

/-- Data: Seq, Stamp, Frame, Symbol, Body (where, how many, room). -/
structure Dt where
  s : Nat
  t : Nat
  f : Nat
  y : Nat
  a : Option Addr
  n : Nat
  c : Nat
def Dt.cell (d : Dt) : Nat → Value
  | 0 => .int .u16 (d.s : Int)
  | 1 => .int .u16 (d.t : Int)
  | 2 => .int .u32 (d.f : Int)
  | 3 => .int .u16 (d.y : Int)
  | _ => .slice d.a d.n d.c
def Dt.val (d : Dt) : Value := .agg #[.int .u16 (d.s : Int), .int .u16 (d.t : Int), .int .u32 (d.f : Int), .int .u16 (d.y : Int), .slice d.a d.n d.c]
/-- The slice's address a leads to m data: the i-th is K i. -/
def DsAt (w : World) (a : Option Addr) (m : Nat) (K : Nat → Dt) : Prop :=
  0 < m → ∃ b o, a = some ⟨b, o, none⟩ ∧ ∀ i, i < m → w.cell? ⟨b, o + i * 5, none⟩ = some (.int .u16 ((K i).s : Int)) ∧ w.cell? ⟨b, o + i * 5 + 1, none⟩ = some (.int .u16 ((K i).t : Int)) ∧ w.cell? ⟨b, o + i * 5 + 2, none⟩ = some (.int .u32 ((K i).f : Int)) ∧
    w.cell? ⟨b, o + i * 5 + 3, none⟩ = some (.int .u16 ((K i).y : Int)) ∧ w.cell? ⟨b, o + i * 5 + 4, none⟩ = some (.slice (K i).a (K i).n (K i).c)
theorem DsAt.nil (w : World) (K : Nat → Dt) : DsAt w none 0 K := fun h => absurd h (by omega)
theorem DsAt.addr {w : World} {a : Option Addr} {m : Nat} {K : Nat → Dt} (h : DsAt w a m K) (h0 : 0 < m) : ∃ b o, a = some ⟨b, o, none⟩ := by
  obtain ⟨b, o, e, -⟩ := h h0
  exact ⟨b, o, e⟩
theorem DsAt.at {w : World} {b o m : Nat} {K : Nat → Dt} (h : DsAt w (some ⟨b, o, none⟩) m K) (i : Nat) (hi : i < m) : w.cell? ⟨b, o + i * 5, none⟩ = some (.int .u16 ((K i).s : Int)) ∧ w.cell? ⟨b, o + i * 5 + 1, none⟩ = some (.int .u16 ((K i).t : Int)) ∧ w.cell? ⟨b, o + i * 5 + 2, none⟩ = some (.int .u32 ((K i).f : Int)) ∧
    w.cell? ⟨b, o + i * 5 + 3, none⟩ = some (.int .u16 ((K i).y : Int)) ∧ w.cell? ⟨b, o + i * 5 + 4, none⟩ = some (.slice (K i).a (K i).n (K i).c) := by
  obtain ⟨b', o', e, hc⟩ := h (by omega)
  cases e
  exact hc i hi
theorem DsAt.block {w w' : World} {a : Option Addr} {m : Nat} {K : Nat → Dt} (h : DsAt w a m K) (hb : ∀ b o, a = some ⟨b, o, none⟩ → b < w.heap.size → w'.heap[b]? = w.heap[b]?) : DsAt w' a m K := fun h0 => by
  obtain ⟨b, o, e, hc⟩ := h h0
  have hl := hb b o e (cell_lt (hc 0 h0).1)
  have q : ∀ j, w'.cell? ⟨b, j, none⟩ = w.cell? ⟨b, j, none⟩ := fun j => World.cell?_of_block (a := ⟨b, j, none⟩) hl
  refine ⟨b, o, e, fun i hi => ?_⟩
  rw [q, q, q, q, q]
  exact hc i hi
theorem DsAt.grew {w w' : World} {a : Option Addr} {m : Nat} {K : Nat → Dt} (h : DsAt w a m K) (hb : Below w.heap.size w w') : DsAt w' a m K := h.block fun b _ _ hl => hb.block b hl
theorem DsAt.kept {w w' : World} {b o m R : Nat} {K : Nat → Dt} (h : DsAt w (some ⟨b, o, none⟩) m K) (hk : Kept R w w') (hR : b ≠ R) : DsAt w' (some ⟨b, o, none⟩) m K := h.block fun _ _ e hl => by cases e; exact hk.block b hl hR

def dcells (K : Nat → Dt) (m : Nat) : List Value := (List.range (m * 5)).map fun i => (K (i / 5)).cell (i % 5)
theorem dcells_len (K : Nat → Dt) (m : Nat) : (dcells K m).length = m * 5 := by simp [dcells]
def fiveCells (d : Dt) : List Value := [.int .u16 (d.s : Int), .int .u16 (d.t : Int), .int .u32 (d.f : Int), .int .u16 (d.y : Int), .slice d.a d.n d.c]
theorem five_get (d : Dt) : ∀ j, j < 5 → (fiveCells d)[j]? = some (d.cell j)
  | 0, _ => rfl
  | 1, _ => rfl
  | 2, _ => rfl
  | 3, _ => rfl
  | 4, _ => rfl
  | j + 5, h => absurd h (by omega)
theorem dcells_push (K : Nat → Dt) (m : Nat) (d : Dt) : dcells K m ++ fiveCells d = dcells (fun i => if i < m then K i else d) (m + 1) := by
  refine List.ext_getElem? fun i => ?_
  by_cases g : i < m * 5
  · rw [List.getElem?_append_left (by rw [dcells_len]; exact g)]
    simp [dcells, g, show i < (m + 1) * 5 by omega, show i / 5 < m by omega]
  · rw [List.getElem?_append_right (by rw [dcells_len]; omega), dcells_len]
    by_cases q : i < (m + 1) * 5
    · rw [five_get d (i - m * 5) (by omega)]
      simp [dcells, q, show ¬ i / 5 < m by omega]
      congr 1
      omega
    · rw [List.getElem?_eq_none (by simp [fiveCells]; omega), List.getElem?_eq_none (by rw [dcells_len]; omega)]
/-- A row of the call's own, of m data K. -/
def Dor (w : World) (base : Nat) (v : Value) (m : Nat) (K : Nat → Dt) : Prop := w.ownsRow base 40 5 v m (dcells K m)
theorem Dor.nil (w : World) (base : Nat) (K : Nat → Dt) : Dor w base (.slice none 0 0) 0 K := ⟨rfl, .inl ⟨rfl, rfl⟩⟩
theorem Dor.any {w : World} {base : Nat} {v : Value} {m : Nat} {K : Nat → Dt} (h : Dor w base v m K) :
    ∃ r cap, v = .slice r m cap ∧ DsAt w r m K ∧ (∀ b o, r = some ⟨b, o, none⟩ → base ≤ b ∧ b < w.heap.size) := by
  have hl : ∀ g, v.ownBlock = some g → base ≤ g ∧ g < w.heap.size := fun g e => World.ownsRow.lt h g e
  rcases h.2 with ⟨rfl, rfl⟩ | ⟨g, cap, cur, rfl, hb, hh, hle, hm, hs, ht⟩
  · exact ⟨none, 0, rfl, DsAt.nil _ _, fun b o e => by cases e⟩
  · refine ⟨_, cap, rfl, fun _ => ⟨g, 0, rfl, fun i hi => ?_⟩, fun b o e => by cases e; exact hl g rfl⟩
    have e : ∀ j, j < 5 → w.cell? ⟨g, i * 5 + j, none⟩ = some ((K i).cell j) := fun j hj => by
      have e : cur.toList[i * 5 + j]? = some ((K i).cell j) := by
        have : (cur.toList.take (m * 5))[i * 5 + j]? = cur.toList[i * 5 + j]? := by rw [List.getElem?_take_of_lt (by omega)]
        rw [← this, ht]
        simp [dcells, show i * 5 + j < m * 5 by omega, show (i * 5 + j) / 5 = i by omega, show (i * 5 + j) % 5 = j by omega]
      simp [World.cell?, hh]
      simpa using e
    rw [Nat.zero_add]
    exact ⟨e 0 (by decide), e 1 (by decide), e 2 (by decide), e 3 (by decide), e 4 (by decide)⟩
theorem Dor.kept {R : Nat} {w w' : World} {base : Nat} {v : Value} {m : Nat} {K : Nat → Dt} (h : Dor w base v m K) (hk : Kept R w w') (hR : R < base) : Dor w' base v m K := by
  have h' : w.ownsRow base 40 5 v m (dcells K m) := h
  refine h'.kept (row := some R) ⟨hk.os, hk.tape, hk.output, hk.size, fun k hk' hne => hk.block k hk' (fun e => hne (by rw [e]))⟩ ?_
  cases e : v.ownBlock with
  | none => exact .inl rfl
  | some g =>
    have := (h'.lt g e).1
    refine .inr fun e2 => ?_
    cases e2
    omega
theorem Dor.grew {w w' : World} {base : Nat} {v : Value} {m : Nat} {K : Nat → Dt} (h : Dor w base v m K) (hb : Below w.heap.size w w') : Dor w' base v m K := by
  have h' : w.ownsRow base 40 5 v m (dcells K m) := h
  refine h'.kept (row := none) ⟨hb.os, hb.tape, hb.output, hb.size, fun k hk _ => hb.block k hk⟩ ?_
  cases e : v.ownBlock with
  | none => exact .inl rfl
  | some g => exact .inr (by simp)
theorem Dor.base {w : World} {base base' : Nat} {v : Value} {m : Nat} {K : Nat → Dt} (h : Dor w base v m K) (hb : base' ≤ base) : Dor w base' v m K := by
  obtain ⟨h1, h2⟩ := h
  refine ⟨h1, ?_⟩
  rcases h2 with h2 | ⟨g, cap, cur, e, hg, h3⟩
  · exact .inl h2
  · exact .inr ⟨g, cap, cur, e, Nat.le_trans hb hg, h3⟩
theorem Try.infoData : (Try.prog.info? 40).map (fun i => (i.zero, i.size, i.bytes)) = some (some (.agg #[.int .u16 0, .int .u16 0, .int .u32 0, .int .u16 0, .slice none 0 0]), 5, 40) := by kernel_rfl
/-- One more, from wherever it lies. -/
theorem Dor.push {W : World} {base : Nat} {v : Value} {m q : Nat} {K : Nat → Dt} {d : Dt} (ty : TypeId) (h : Dor W base v m K) (hf : DatAt W q d.s d.t d.f d.y d.a d.n d.c) (hm : m ≤ 1000) (hbase : base ≤ W.heap.size) :
    ∃ v' W', (Builtin.append_ #[31, 31] ty #[v, .slice (some ⟨q, 0, none⟩) 1 1]).run Try.prog W = .ok v' W' ∧ Dor W' base v' (m + 1) (fun i => if i < m then K i else d) ∧ W.grownBy W' v.ownBlock ∧ (v'.ownBlock = v.ownBlock ∨ v'.ownBlock = some W.heap.size) := by
  obtain ⟨i0, hi, hz0, hz1, hz2⟩ := info_parts Try.infoData
  obtain ⟨v', W', hr, hown, hgr, -, hwh⟩ := run_append_own_at (P := Try.prog) W base 31 ty 40 i0 (.agg #[.int .u16 0, .int .u16 0, .int .u32 0, .int .u16 0, .slice none 0 0]) 5 40 Try.underlying31 hi hz0 hz1 hz2 rfl (by decide) v m _ h ⟨q, 0, none⟩ 1 1 (fiveCells d) rfl
    (fun j u hj => by
      have hj5 : j < 5 := by
        have := (List.getElem?_eq_some_iff.1 hj).1
        exact this
      rw [five_get d j hj5] at hj
      cases hj
      rw [Addr.add_mid, Nat.zero_add]
      exact five_cell hf j hj5) (by intro u hu; simp [fiveCells] at hu; rcases hu with rfl | rfl | rfl | rfl | rfl <;> rfl) (by unfold maxLen; omega) (by omega) hbase
  refine ⟨v', W', hr, ?_, hgr, hwh⟩
  show W'.ownsRow _ _ _ _ _ _
  rw [← dcells_push]
  exact hown
where five_cell {W : World} {q : Nat} {d : Dt} (h : DatAt W q d.s d.t d.f d.y d.a d.n d.c) : ∀ j, j < 5 → W.cell? ⟨q, j, none⟩ = some (d.cell j)
  | 0, _ => h.c0
  | 1, _ => h.c1
  | 2, _ => h.c2
  | 3, _ => h.c3
  | 4, _ => h.c4
  | j + 5, hj => absurd hj (by omega)
theorem Dor.grown {W W' : World} {base : Nat} {v : Value} {m : Nat} {K : Nat → Dt} (h : Dor W base v m K) (hg : W.grownBy W' v.ownBlock) (hb : base ≤ W.heap.size) : Below base W W' :=
  ⟨hg.os, hg.tape, hg.output, hg.size, fun k hk => hg.block k (by omega) (fun e => by have := (World.ownsRow.lt h k e.symm).1; omega)⟩

/-- A body lies in new memory, apart from the row v. -/
structure Bdy (w : World) (base : Nat) (v : Value) (d : Dt) (y : Nat → Nat) : Prop where
  pl : ∃ g, d.a = some ⟨g, 0, none⟩ ∧ base ≤ g ∧ g < w.heap.size ∧ v.ownBlock ≠ some g
  bs : BytesAt w d.a d.n y
theorem Bdy.kept {R : Nat} {w w' : World} {base : Nat} {v : Value} {d : Dt} {y : Nat → Nat} (h : Bdy w base v d y) (hk : Kept R w w') (hR : R < base) : Bdy w' base v d y := by
  obtain ⟨g, e, h1, h2, h3⟩ := h.pl
  refine ⟨⟨g, e, h1, Nat.lt_of_lt_of_le h2 hk.size, h3⟩, ?_⟩
  have := h.bs
  rw [e] at this ⊢
  refine ⟨fun h0 => ?_, this.lt⟩
  obtain ⟨b, o, e1, hc⟩ := this.cells h0
  cases e1
  exact ⟨g, 0, rfl, fun i hi => hk.cell (hc i hi) (by omega)⟩
theorem Bdy.grew {w w' : World} {base : Nat} {v : Value} {d : Dt} {y : Nat → Nat} (h : Bdy w base v d y) (hb : Below w.heap.size w w') : Bdy w' base v d y := by
  obtain ⟨g, e, h1, h2, h3⟩ := h.pl
  exact ⟨⟨g, e, h1, Nat.lt_of_lt_of_le h2 hb.size, h3⟩, h.bs.grew hb⟩
theorem Bdy.grown {w w' : World} {base : Nat} {v v' : Value} {d : Dt} {y : Nat → Nat} (h : Bdy w base v d y) (hg : w.grownBy w' v.ownBlock) (hv : v'.ownBlock = v.ownBlock ∨ v'.ownBlock = some w.heap.size) : Bdy w' base v' d y := by
  obtain ⟨g, e, h1, h2, h3⟩ := h.pl
  refine ⟨⟨g, e, h1, Nat.lt_of_lt_of_le h2 hg.size, ?_⟩, ?_⟩
  · rcases hv with hv | hv
    · rw [hv]; exact h3
    · rw [hv]; intro e2; cases e2; omega
  · have := h.bs
    rw [e] at this ⊢
    exact this.grown hg h3
/-- Data of the call's own: the i-th's body is Y i. -/
structure Dts (w : World) (base : Nat) (v : Value) (m : Nat) (K : Nat → Dt) (Y : Nat → Nat → Nat) : Prop where
  row : Dor w base v m K
  body : ∀ q, q < m → Bdy w base v (K q) (Y q)
theorem Dts.nil (w : World) (base : Nat) (K : Nat → Dt) (Y : Nat → Nat → Nat) : Dts w base (.slice none 0 0) 0 K Y := ⟨Dor.nil _ _ _, fun q hq => absurd hq (Nat.not_lt_zero q)⟩
theorem Dts.kept {R : Nat} {w w' : World} {base m : Nat} {v : Value} {K : Nat → Dt} {Y : Nat → Nat → Nat} (h : Dts w base v m K Y) (hk : Kept R w w') (hR : R < base) : Dts w' base v m K Y := ⟨h.row.kept hk hR, fun q hq => (h.body q hq).kept hk hR⟩
theorem Dts.grew {w w' : World} {base m : Nat} {v : Value} {K : Nat → Dt} {Y : Nat → Nat → Nat} (h : Dts w base v m K Y) (hb : Below w.heap.size w w') : Dts w' base v m K Y := ⟨h.row.grew hb, fun q hq => (h.body q hq).grew hb⟩
theorem Dts.base {w : World} {base base' m : Nat} {v : Value} {K : Nat → Dt} {Y : Nat → Nat → Nat} (h : Dts w base v m K Y) (hb : base' ≤ base) : Dts w base' v m K Y :=
  ⟨h.row.base hb, fun q hq => by
    obtain ⟨⟨g, e, h1, h2⟩, h3⟩ := h.body q hq
    exact ⟨⟨g, e, Nat.le_trans hb h1, h2⟩, h3⟩⟩
/-- One more, from wherever it lies. -/
theorem Dts.push {W : World} {base : Nat} {v : Value} {m q : Nat} {K : Nat → Dt} {d : Dt} {Y : Nat → Nat → Nat} {y : Nat → Nat} (ty : TypeId) (h : Dts W base v m K Y) (hf : DatAt W q d.s d.t d.f d.y d.a d.n d.c) (hy : Bdy W base v d y) (hm : m ≤ 1000) (hbase : base ≤ W.heap.size) :
    ∃ v' W', (Builtin.append_ #[31, 31] ty #[v, .slice (some ⟨q, 0, none⟩) 1 1]).run Try.prog W = .ok v' W' ∧ Dts W' base v' (m + 1) (fun i => if i < m then K i else d) (fun i => if i < m then Y i else y) ∧ Below base W W' ∧ W.grownBy W' v.ownBlock := by
  obtain ⟨v', W', hr, ho, hg, hv⟩ := h.row.push ty hf hm hbase
  refine ⟨v', W', hr, ⟨ho, fun i hi => ?_⟩, h.row.grown hg hbase, hg⟩
  by_cases e : i < m
  · simp only [if_pos e]; exact (h.body i e).grown hg hv
  · simp only [if_neg e]; exact hy.grown hg hv
end Go.Proofs.Ythlidbenhlidjaa

/-
  What came in as a slice of ints: read as a plain function. No program.
-/
namespace Go.Proofs.Ythlidbenhlidjaa
open Go.ChangeShapes Go.WideShapes Go.RowKit Go.Deep

section
variable {H : Type} {enc : TypeId × Value → H} {P : Program} {w : World} {base : Nat} {spare : Nat → Bool} {held : Bool}
/-- The slice's address a leads to len ints: the i-th is z i. -/
def IntsAt (w : World) (a : Option Addr) (len : Nat) (z : Nat → Int) : Prop :=
  0 < len → ∃ b o, a = some ⟨b, o, none⟩ ∧ ∀ i, i < len → w.cell? ⟨b, o + i, none⟩ = some (.int .i64 (z i))
theorem open_ints {t e : TypeId} {a : Option Addr} {len cap : Nat} {d : DataW H} {ps : List MemPlace} (ht : P.underlying t = some (.slice e)) (he : P.underlying e = some (.int .i64)) (hc : P.cellsOf e = 1)
    (h : DataW.Trod enc P w 0 (fun _ => true) true t (.slice a len cap) d ps) : ∃ z, IntsAt w a len z ∧ len ≤ cap ∧ cap ≤ maxLen := by
  obtain ⟨fuel, hf⟩ := h
  rcases open_slice ht hf with ⟨hcs, -⟩ | ⟨x, l, c, m, k, D, Pl, hcs, -, hl, hm, hmm, -, hi⟩
  · simp [Value.cells] at hcs
    obtain ⟨rfl, rfl, rfl⟩ := hcs
    exact ⟨fun _ => 0, fun h => absurd h (by omega), by omega, by unfold maxLen; omega⟩
  · simp [Value.cells] at hcs
    obtain ⟨rfl, rfl, rfl⟩ := hcs
    simp only [if_true] at hmm
    subst hmm
    have each : ∀ i, i < len → ∃ z : Int, w.cell? (x.add i) = some (.int .i64 z) := by
      intro i h0
      obtain ⟨cs', h1, h2⟩ := hi i (by omega)
      rw [hc, Nat.mul_one] at h1
      obtain ⟨-, -, h5⟩ := World.cells?_some h1
      obtain ⟨z, e1, -, -⟩ := DataW.trod_int he h2
      refine ⟨z, ?_⟩
      have h6 := h5 0 (by omega)
      rw [e1] at h6
      exact h6
    obtain ⟨f, hf⟩ := choose_lt each
    refine ⟨f, fun h0 => ?_, hl, hm⟩
    have hs := hf 0 h0
    have hx : x.spot = none := addr_plain (w := w) (x := x) hs
    obtain ⟨b, o, s⟩ := x
    simp only at hx
    subst hx
    refine ⟨b, o, rfl, fun i h1 => ?_⟩
    have := hf i h1
    rwa [show (⟨b, o, none⟩ : Addr).add i = ⟨b, o + i, none⟩ by unfold Addr.add; split <;> simp_all] at this
end
end Go.Proofs.Ythlidbenhlidjaa

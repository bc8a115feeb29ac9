/-
  Several texts, one behind the other.
-/
import Derived.Test.YthlidbenhlidjaaRows
import Derived.WalkKit
import Derived.WalkSpells
import Derived.WalkLawsBesides
import Derived.Deep.QuietTactic
import Derived.BigQuiet
import Derived.BigRegion
import Derived.Laws.BitsAllLaws
import Derived.Deep.OwnRows
import Derived.Deep.RegionWith
import Derived.Laws.BytesArg
import Derived.OpenShut
import Derived.Lib.AppendZeros
import Derived.Lib.SliceRun
import Derived.Deep.MidRow
import Derived.Maps.AppendAt
import Derived.Deep.Matrix
/-
  Memory without any package of the program: bytes, rows of bytes, what stays as it was, strings of bytes, lists of rows of the call's own.
-/
namespace Go.Proofs.Ythlidbenhlidjaa
open Go.RowKit Go.Deep

theorem ret_int {k : IntKind} {a b : Int} (h : a = b) : Ending.returned (.int k a) = .returned (.int k b) := by rw [h]
/-- The slice's address a leads to n bytes: the i-th is x i. -/
structure BytesAt (w : World) (a : Option Addr) (n : Nat) (x : Nat → Nat) : Prop where
  cells : 0 < n → ∃ b o, a = some ⟨b, o, none⟩ ∧ ∀ i, i < n → w.cell? ⟨b, o + i, none⟩ = some (.int .u8 (x i))
  lt : ∀ i, i < n → x i < 256
theorem Try.infoByte : (Try.prog.info? 5).map (fun i => (i.zero, i.size, i.bytes)) = some (some (.int .u8 0), 1, 1) := by kernel_rfl
theorem cell_lt {w : World} {b o : Nat} {v : Value} (h : w.cell? ⟨b, o, none⟩ = some v) : b < w.heap.size := by
  by_cases g : b < w.heap.size
  · exact g
  · exfalso; simp [World.cell?, g] at h
theorem below_drews {B : Nat} {w : World} (n : Nat) : Below B w (w.drewN n) := ⟨rfl, rfl, rfl, Nat.le_refl _, fun _ _ => rfl⟩
/-- w' is w behind some draws: nothing in it has turned. -/
def Same (w w' : World) : Prop := ∃ n, w' = w.drewN n
theorem Same.refl (w : World) : Same w w := ⟨0, rfl⟩
theorem Same.trans {a b c : World} (h : Same a b) (k : Same b c) : Same a c := by
  obtain ⟨n, rfl⟩ := h
  obtain ⟨m, rfl⟩ := k
  exact ⟨n + m, by rw [World.drewN_drewN]⟩
theorem Same.below {w w' : World} (h : Same w w') (B : Nat) : Below B w w' := by
  obtain ⟨n, rfl⟩ := h; exact below_drews n
theorem Same.size {w w' : World} (h : Same w w') : w'.heap.size = w.heap.size := by
  obtain ⟨n, rfl⟩ := h; rfl
theorem Same.cell {w w' : World} (h : Same w w') (a : Addr) : w'.cell? a = w.cell? a := by
  obtain ⟨n, rfl⟩ := h; rfl
theorem Same.bytes {w w' : World} {a : Option Addr} {n : Nat} {x : Nat → Nat} (h : Same w w') (k : BytesAt w a n x) : BytesAt w' a n x := by
  obtain ⟨m, rfl⟩ := h; exact ⟨k.cells, k.lt⟩
theorem Same.row {w w' : World} {b t n : Nat} {f : Nat → Value} (h : Same w w') (k : w.rowIs b t n f) : w'.rowIs b t n f := by
  obtain ⟨m, rfl⟩ := h; exact k
theorem BytesAt.below {w w' : World} {a : Option Addr} {n B : Nat} {x : Nat → Nat} (h : BytesAt w a n x) (hb : Below B w w') (hB : w.heap.size ≤ B) : BytesAt w' a n x := by
  refine ⟨fun hn => ?_, h.lt⟩
  obtain ⟨b, o, e, hc⟩ := h.cells hn
  exact ⟨b, o, e, fun i hi => (hb.cell (p := ⟨b, o + i, none⟩) (Nat.lt_of_lt_of_le (cell_lt (hc i hi)) hB)).trans (hc i hi)⟩
theorem int_nat (x : Int) (h : 0 ≤ x ∧ x < 256) : ∃ n : Nat, x = n ∧ n < 256 := ⟨x.toNat, by omega, by omega⟩
theorem bytes_one (w : World) (B : Nat) (x : Int) (hx : 0 ≤ x ∧ x < 256) (h : w.cell? ⟨B, 0, none⟩ = some (.int .u8 x)) : BytesAt w (some ⟨B, 0, none⟩) 1 (fun _ => x.toNat) := by
  refine ⟨fun _ => ⟨B, 0, rfl, fun i hi => ?_⟩, fun _ _ => by omega⟩
  obtain rfl : i = 0 := by omega
  rw [h]
  show some (Value.int .u8 x) = some (Value.int .u8 (x.toNat : Int))
  rw [Int.toNat_of_nonneg hx.1]
/-- The string of n bytes, the i-th x i. -/
def strOf (n : Nat) (x : Nat → Nat) : ByteArray := strOfNums ((List.range n).map fun i => (x i : Int))
theorem strOf_congr {n : Nat} {x y : Nat → Nat} (h : ∀ i, i < n → x i = y i) : strOf n x = strOf n y := by
  unfold strOf
  congr 1
  refine List.map_congr_left fun i hi => ?_
  rw [h i (List.mem_range.1 hi)]
theorem range_getD (n : Nat) (x : Nat → Nat) (i : Nat) (h : i < n) : ((List.range n).map fun i => (x i : Int)).getD i 0 = (x i : Int) := by
  simp [List.getD, h]
theorem conv_bytes (a : Option Addr) (n c : Nat) (x : Nat → Nat) (w : World) (h : BytesAt w a n x) :
    (convert 26 9 (.slice a n c)).run Try.prog w = .ok (.string (strOf n x)) w := by
  by_cases hn : 0 < n
  · obtain ⟨b, o, rfl, hc⟩ := h.cells hn
    exact run_convert_bytes_arg w 26 5 Try.underlying26 Try.underlying5 b o n c _ (by simp) (fun i hi => by rw [range_getD n x i hi]; exact hc i hi) 9 Try.underlying9
  · obtain rfl : n = 0 := by omega
    cases a with
    | none => exact run_convert_bytes_nil w 26 5 Try.underlying26 Try.underlying5 0 c 9 Try.underlying9
    | some a =>
      rw [run_convert_bytes_string w 26 9 5 _ 0 c Try.underlying26 Try.underlying5 Try.underlying9, run_bytesToString w a 0 c [] (by rfl)]
      rfl
/-- What the guide's shell tells of a slice of bytes that came in. -/
def Came (w : World) (a : Option Addr) (len cap : Nat) (zs : List Int) : Prop :=
  (a = none ∧ len = 0 ∧ cap = 0 ∧ zs = []) ∨
  ∃ x, a = some x ∧ len ≤ cap ∧ cap ≤ maxLen ∧ zs.length = cap ∧ (∀ i, i < zs.length → w.cell? (x.add i) = some (.int .u8 (zs.getD i 0))) ∧ ∀ n ∈ zs, (Lit.int .u8 n).wf = true
theorem addr_plain {w : World} {x : Addr} {v : Value} (h : w.cell? x = some v) : x.spot = none := by
  cases hs : x.spot with
  | none => rfl
  | some k => exfalso; obtain ⟨b, o, s⟩ := x; simp at hs; subst hs; simp [World.cell?] at h; split at h <;> simp at h
theorem Came.bytes {w : World} {a : Option Addr} {len cap : Nat} {zs : List Int} (h : Came w a len cap zs) :
    BytesAt w a len (fun i => (zs.getD i 0).toNat) ∧ len ≤ cap ∧ cap ≤ maxLen := by
  rcases h with ⟨rfl, rfl, rfl, rfl⟩ | ⟨x, rfl, h1, h2, h3, h4, h5⟩
  · exact ⟨⟨fun h => absurd h (by omega), fun i hi => absurd hi (by omega)⟩, by omega, by unfold maxLen; omega⟩
  · refine ⟨⟨fun hn => ?_, fun i hi => ?_⟩, h1, h2⟩
    · obtain ⟨b, o, s⟩ := x
      have hz := h4 0 (by omega)
      have e0 : (⟨b, o, s⟩ : Addr).add 0 = ⟨b, o, s⟩ := rfl
      rw [e0] at hz
      have hs : s = none := addr_plain hz
      subst hs
      refine ⟨b, o, rfl, fun i hi => ?_⟩
      have hc := h4 i (by omega)
      have ea : (⟨b, o, none⟩ : Addr).add i = ⟨b, o + i, none⟩ := by unfold Addr.add; split <;> simp_all
      rw [ea] at hc
      rw [hc]
      have hb := range_u8 h5 i
      simp only [List.getD] at *
      rw [Int.toNat_of_nonneg hb.1]
    · have hb := range_u8 h5 i
      simp only [List.getD] at *
      omega
theorem min4 (ts : Array TypeId) (t : TypeId) (x y z u N : Int) (w : World) (h : min (min (min x y) z) u = N) : (Builtin.min_ ts t #[.int .i64 x, .int .i64 y, .int .i64 z, .int .i64 u]).run Try.prog w = .ok (.int .i64 N) w := by
  subst h
  simp [Builtin.min_, Builtin.min2]
  repeat' split
  all_goals omega
set_option maxRecDepth 100000 in
theorem slice_to (a : Option Addr) (len cap n : Nat) (w : World) (h : n ≤ cap) : (Instr.slice 26 (.slice a len cap) none (some (.int .i64 (n : Int))) none).run Try.prog w = .ok (.slice a n cap) w := by
  have hz : ∀ x : Addr, x.add 0 = x := fun _ => rfl
  have e := run_slice_h (P := Try.prog) w 26 a len cap Try.underlying26 .i64 (n : Int) (by omega) (by omega)
  rw [e]
  simp [sliced, hz]
  have hs : (sizeOf (Try.prog.elem 26)).run Try.prog w = .ok 1 w := by kernel_rfl
  rw [hs]
  rfl
theorem BytesAt.take {w : World} {a : Option Addr} {n m : Nat} {x : Nat → Nat} (h : BytesAt w a n x) (hm : m ≤ n) : BytesAt w a m x := by
  refine ⟨fun h0 => ?_, fun i hi => h.lt i (by omega)⟩
  obtain ⟨b, o, e, hc⟩ := h.cells (by omega)
  exact ⟨b, o, e, fun i hi => hc i (by omega)⟩
/-- The first k numbers of x, as cells. -/
def cellsAt (x : Nat → Nat) (o k : Nat) : List Value := (List.range k).map fun i => .int .u8 (x (o + i))
theorem cellsAt_len (x : Nat → Nat) (o k : Nat) : (cellsAt x o k).length = k := by simp [cellsAt]
theorem cellsAt_get (x : Nat → Nat) (o k j : Nat) (v : Value) (h : (cellsAt x o k)[j]? = some v) : j < k ∧ v = .int .u8 (x (o + j)) := by
  have hj : j < k := by have := (List.getElem?_eq_some_iff.1 h).1; rwa [cellsAt_len] at this
  refine ⟨hj, ?_⟩
  simp [cellsAt, hj] at h
  exact h.symm
theorem cellsAt_one (x : Nat → Nat) (o k : Nat) : ∀ u ∈ cellsAt x o k, u.oneCell' = true := by
  intro u hu
  obtain ⟨i, _, rfl⟩ := List.mem_map.1 hu
  rfl
/-- A row of the call's own, that is not nil, read as bytes. -/
theorem own_at {w : World} {base e : Nat} {v : Value} {n : Nat} {x : Nat → Nat} (h : w.ownsRow base e 1 v n (cellsAt x 0 n)) (hv : v ≠ .slice none 0 0) (hx : ∀ i, i < n → x i < 256) :
    ∃ g c, v = .slice (some ⟨g, 0, none⟩) n c ∧ base ≤ g ∧ n ≤ c ∧ BytesAt w (some ⟨g, 0, none⟩) n x ∧ g < w.heap.size := by
  obtain ⟨h1, h2⟩ := h
  rcases h2 with ⟨rfl, rfl⟩ | ⟨g, cap, cur, rfl, hb, hh, hle, hm, hs, ht⟩
  · exact absurd rfl hv
  · refine ⟨g, cap, rfl, hb, hle, ⟨fun _ => ⟨g, 0, rfl, fun i hi => ?_⟩, hx⟩, ?_⟩
    · have e : cur.toList[i]? = some (.int .u8 (x i)) := by
        have : (cur.toList.take (n * 1))[i]? = cur.toList[i]? := by rw [List.getElem?_take_of_lt (by omega)]
        rw [← this, ht]
        simp [cellsAt, hi]
      simp [World.cell?, hh]
      simpa using e
    · have := (Array.getElem?_eq_some_iff.1 hh).1
      exact this
/-- A new row of n bytes, the i-th x i, was made and answered. -/
def NewRow (w : World) (n : Nat) (x : Nat → Nat) (e : Ending) (w' : World) : Prop :=
  ∃ g c, e = .returned (.slice (some ⟨g, 0, none⟩) n c) ∧ w.heap.size ≤ g ∧ n ≤ c ∧ BytesAt w' (some ⟨g, 0, none⟩) n x ∧ Below w.heap.size w w'
/-- Two rows, one behind the other. -/
def cat (x y : Nat → Nat) (n : Nat) (i : Nat) : Nat := if i < n then x i else y (i - n)
theorem cat_cells (x y : Nat → Nat) (n m : Nat) : cellsAt x 0 n ++ cellsAt y 0 m = cellsAt (cat x y n) 0 (n + m) := by
  refine List.ext_getElem? fun i => ?_
  by_cases h : i < n
  · rw [List.getElem?_append_left (by rw [cellsAt_len]; exact h)]
    simp [cellsAt, h, show i < n + m by omega, cat]
  · rw [List.getElem?_append_right (by rw [cellsAt_len]; omega), cellsAt_len]
    by_cases g : i < n + m
    · simp [cellsAt, g, show i - n < m by omega, cat, h]
    · simp [cellsAt, g, show ¬ i - n < m by omega]
theorem bytes_some {w : World} {a : Option Addr} {n : Nat} {x : Nat → Nat} (h : BytesAt w a n x) (h0 : 0 < n) : ∃ b o, a = some ⟨b, o, none⟩ := by
  obtain ⟨b, o, e, -⟩ := h.cells h0
  exact ⟨b, o, e⟩
theorem bytes_cell {w : World} {b o n : Nat} {x : Nat → Nat} (h : BytesAt w (some ⟨b, o, none⟩) n x) (i : Nat) (hi : i < n) : w.cell? ⟨b, o + i, none⟩ = some (.int .u8 (x i)) := by
  obtain ⟨b', o', e, hc⟩ := h.cells (by omega)
  cases e
  exact hc i hi
theorem cat_lt {x y : Nat → Nat} {n m : Nat} (hx : ∀ i, i < n → x i < 256) (hy : ∀ i, i < m → y i < 256) : ∀ i, i < n + m → cat x y n i < 256 := by
  intro i hi
  unfold cat
  split
  · exact hx i (by omega)
  · exact hy _ (by omega)
theorem own_ge {w : World} {base e s : Nat} {v : Value} {n : Nat} {xs : List Value} (h : w.ownsRow base e s v n xs) : ∀ k, v.ownBlock = some k → base ≤ k := by
  intro k hk
  rcases h.2 with ⟨rfl, -⟩ | ⟨g, cap, cur, rfl, hb, -⟩
  · simp [Value.ownBlock] at hk
  · simp [Value.ownBlock] at hk; omega
/-- All that lay in w lies in w', but for block R. -/
structure Kept (R : Nat) (w w' : World) : Prop where
  os : w'.os = w.os
  tape : w'.tape = w.tape
  output : w'.output = w.output
  size : w.heap.size ≤ w'.heap.size
  block : ∀ k, k < w.heap.size → k ≠ R → w'.heap[k]? = w.heap[k]?
theorem Kept.refl (R : Nat) (w : World) : Kept R w w := ⟨rfl, rfl, rfl, Nat.le_refl _, fun _ _ _ => rfl⟩
theorem Kept.trans {R : Nat} {a b c : World} (h : Kept R a b) (k : Kept R b c) : Kept R a c :=
  ⟨k.os.trans h.os, k.tape.trans h.tape, k.output.trans h.output, Nat.le_trans h.size k.size, fun i hi hR => (k.block i (Nat.lt_of_lt_of_le hi h.size) hR).trans (h.block i hi hR)⟩
theorem Kept.of_below {R : Nat} {w w' : World} (h : Below w.heap.size w w') : Kept R w w' := ⟨h.os, h.tape, h.output, h.size, fun k hk _ => h.block k hk⟩
theorem Kept.of_same {R : Nat} {w w' : World} (h : Same w w') : Kept R w w' := Kept.of_below (h.below _)
theorem Kept.below {R B : Nat} {w w' : World} (h : Kept R w w') (hR : B ≤ R) (hB : B ≤ w.heap.size) : Below B w w' :=
  ⟨h.os, h.tape, h.output, h.size, fun k hk => h.block k (by omega) (by omega)⟩
theorem Kept.set {R : Nat} (w : World) (i : Nat) (v : Value) : Kept R w (w.setCell ⟨R, i, none⟩ v) :=
  ⟨rfl, rfl, rfl, by simp [World.setCell], fun k _ hR => Below.heap_setCell w _ v k hR⟩
theorem Kept.cell {R b o : Nat} {w w' : World} {v : Value} (h : Kept R w w') (hc : w.cell? ⟨b, o, none⟩ = some v) (hR : b ≠ R) : w'.cell? ⟨b, o, none⟩ = some v := by
  rw [World.cell?_of_block (w := w) (h.block b (cell_lt hc) hR), hc]
/-- No number lies in block R. -/
def Apart (w : World) (R : Nat) : Prop := ∀ b o κ z, w.cell? ⟨b, o, none⟩ = some (.int κ z) → b ≠ R
theorem BytesAt.kept {w w' : World} {a : Option Addr} {n R : Nat} {x : Nat → Nat} (h : BytesAt w a n x) (hk : Kept R w w') (ha : Apart w R) : BytesAt w' a n x := by
  refine ⟨fun hn => ?_, h.lt⟩
  obtain ⟨b, o, e, hc⟩ := h.cells hn
  exact ⟨b, o, e, fun i hi => hk.cell (hc i hi) (ha _ _ _ _ (hc i hi))⟩
theorem BytesAt.grew {w w' : World} {a : Option Addr} {n : Nat} {x : Nat → Nat} (h : BytesAt w a n x) (hb : Below w.heap.size w w') : BytesAt w' a n x := h.below hb (Nat.le_refl _)
theorem Try.infoRow : (Try.prog.info? 26).map (fun i => (i.zero, i.size, i.bytes)) = some (some (.slice none 0 0), 1, 24) := by kernel_rfl
theorem BytesAt.setOther {w : World} {b n L i : Nat} {x : Nat → Nat} {v : Value} (h : BytesAt w (some ⟨b, 0, none⟩) n x) (hne : b ≠ L) : BytesAt (w.setCell ⟨L, i, none⟩ v) (some ⟨b, 0, none⟩) n x := by
  refine ⟨fun hn => ?_, h.lt⟩
  obtain ⟨b', o, e, hc⟩ := h.cells hn
  refine ⟨b', o, e, fun j hj => ?_⟩
  cases e
  rw [World.cell?_setCell_other _ _ _ _ (fun e => hne (Addr.mk.inj e).1.symm)]
  exact hc j hj
def listAt (l : List Nat) (i : Nat) : Nat := l.getD i 0
theorem BytesAt.congr {w : World} {a : Option Addr} {n : Nat} {x y : Nat → Nat} (h : BytesAt w a n x) (e : ∀ i, i < n → x i = y i) : BytesAt w a n y := by
  refine ⟨fun hn => ?_, fun i hi => by rw [← e i hi]; exact h.lt i hi⟩
  obtain ⟨b, o, ea, hc⟩ := h.cells hn
  exact ⟨b, o, ea, fun i hi => by rw [← e i hi]; exact hc i hi⟩
/-- A builtin append whose run is known, as one step of a region that draws. -/
theorem step_append_run {P : Program} {ops : Array Oper} {o : Oper} {a : Act} {w : World} {K : Act → World → Prop} {Q : Exit → Act → World → Prop} {E : Prop}
    (hg : o.guard = none) (s x : Operand) (t : TypeId) (hop : o.op = Op.call { callee := Callee.builtin Builtin.append, args := #[s, x], argTypes := #[t, t] })
    (vs vx : Value) (hs : a.eval s = vs) (hx : a.eval x = vx) (v' : Value) (w' : World) (hr : (Builtin.append_ #[t, t] o.type #[vs, vx]).run P w = .ok v' w') (hK : K (a.put o.dst v') w') :
    if Region.wanted o (yielded ops a.tmps) = true then Oper.wp P o a w K Q else E := by
  have hw : Region.wanted o (yielded ops a.tmps) = true := by simp [Region.wanted, hg]
  rw [if_pos hw]
  unfold Oper.wp
  simp [execOp, hop, resolve, invoke, builtin, hs, hx, hr, Result.andThen]
  exact hK
/-- append([]byte{}, s...), s of one byte or more: a new row. -/
theorem clone_run (b0 : Addr) (ty : TypeId) (r : Option Addr) (n c : Nat) (x : Nat → Nat) (W : World) (hx : BytesAt W r n x) (h0 : 0 < n) (hn : n ≤ 1000000) :
    ∃ cap W', (Builtin.append_ #[26, 26] ty #[.slice (some b0) 0 0, .slice r n c]).run Try.prog W = .ok (.slice (some ⟨W.heap.size, 0, none⟩) n cap) W' ∧ BytesAt W' (some ⟨W.heap.size, 0, none⟩) n x ∧ Below W.heap.size W W' := by
  obtain ⟨i0, hi, hz0, hz1, hz2⟩ := info_parts Try.infoByte
  obtain ⟨b, o, rfl⟩ := bytes_some hx h0
  have hr := run_append_grow (P := Try.prog) W 26 ty 5 i0 (.int .u8 0) Try.underlying26 hi hz0 b0 0 0 [] (by simp) (by intro j v hj; simp at hj) ⟨b, o, none⟩ n c (cellsAt x 0 n) (by rw [cellsAt_len, hz1, Nat.mul_one])
    (fun j v hj => by
      obtain ⟨hjn, rfl⟩ := cellsAt_get _ _ _ _ _ hj
      rw [Addr.add_mid, Nat.zero_add]
      exact bytes_cell hx j hjn) (by omega) (by omega) (growslice_fits (by omega) (by rw [hz2]; omega))
  simp only [Nat.zero_add] at hr
  refine ⟨_, _, hr, ⟨fun _ => ⟨W.heap.size, 0, rfl, fun i hi => ?_⟩, hx.lt⟩, (Below.refl _ W).drew.alloc (Nat.le_refl _) _⟩
  rw [Nat.zero_add, show (⟨W.heap.size, i, none⟩ : Addr) = ⟨W.drew.heap.size, i, none⟩ from rfl, World.cell?_alloc_at _ _ _ _ rfl]
  have hl : i < (cellsAt x 0 n).length := by rw [cellsAt_len]; exact hi
  simp only [Array.empty_append]
  rw [Array.getElem?_append_left (by simpa using hl)]
  simp [cellsAt, hi]
theorem nil_bytes (w : World) (x : Nat → Nat) : BytesAt w none 0 x := ⟨fun h => absurd h (by omega), fun i hi => absurd hi (by omega)⟩
/-- The row v of the call's own holds j slices of n bytes, the i-th x i. -/
def Own (w : World) (base : Nat) (v : Value) (j n : Nat) (x : Nat → Nat → Nat) : Prop :=
  ∃ xs, w.ownsRow base 26 1 v j xs ∧ (j = 0 → ∀ g, v.ownBlock = some g → w.cell? ⟨g, 0, none⟩ = none) ∧ ∀ i, i < j → ∃ b c, xs[i]? = some (.slice (some ⟨b, 0, none⟩) n c) ∧ BytesAt w (some ⟨b, 0, none⟩) n (x i)
theorem Own.apart {w : World} {base : Nat} {v : Value} {j n m b : Nat} {x : Nat → Nat → Nat} {y : Nat → Nat} (h : Own w base v j n x) (hb : BytesAt w (some ⟨b, 0, none⟩) m y) (hm : 0 < m) : v.ownBlock ≠ some b := by
  intro e
  obtain ⟨xs, ho, h0, hx⟩ := h
  have h3 := bytes_cell hb 0 hm
  have hj : 0 < j := by
    by_cases hj : j = 0
    · rw [Nat.add_zero, h0 hj b e] at h3; cases h3
    · omega
  obtain ⟨b1, c1, h1, -⟩ := hx 0 hj
  have h2 := ho.cells e 0 _ h1
  rw [show (⟨b, 0, none⟩ : Addr).add 0 = ⟨b, 0, none⟩ from rfl] at h2
  rw [Nat.add_zero, h2] at h3
  cases h3
theorem BytesAt.grown {w w' : World} {row : Option Nat} {b n : Nat} {x : Nat → Nat} (h : BytesAt w (some ⟨b, 0, none⟩) n x) (hg : w.grownBy w' row) (hne : row ≠ some b) : BytesAt w' (some ⟨b, 0, none⟩) n x := by
  refine ⟨fun hn => ?_, h.lt⟩
  obtain ⟨b', o, e, hc⟩ := h.cells hn
  cases e
  exact ⟨b, 0, rfl, fun i hi => by rw [World.cell?_of_block (w := w) (hg.block b (cell_lt (hc i hi)) (Ne.symm hne)), hc i hi]⟩
theorem Own.grew {w w' : World} {base : Nat} {v : Value} {j n : Nat} {x : Nat → Nat → Nat} (h : Own w base v j n x) (hb : Below w.heap.size w w') : Own w' base v j n x := by
  obtain ⟨xs, ho, h0, hx⟩ := h
  refine ⟨xs, ho.kept (row := none) ⟨hb.os, hb.tape, hb.output, hb.size, fun k hk _ => hb.block k hk⟩ ?_, fun hj g e => (hb.cell (p := ⟨g, 0, none⟩) (ho.lt g e).2).trans (h0 hj g e), fun i hi => ?_⟩
  · cases e : v.ownBlock with
    | none => exact .inl rfl
    | some g => exact .inr (by simp)
  · obtain ⟨b, c, h1, h2⟩ := hx i hi
    exact ⟨b, c, h1, h2.grew hb⟩
/-- The block g holds m slices of n bytes, the i-th x i, and may be written. -/
structure Lst (w : World) (g cap m n : Nat) (x : Nat → Nat → Nat) : Prop where
  le : m ≤ cap
  row : ∃ A, w.rowIs g 26 cap A ∧ ∀ i, i < m → ∃ b c, A i = .slice (some ⟨b, 0, none⟩) n c ∧ BytesAt w (some ⟨b, 0, none⟩) n (x i)
  m1 : 0 < m
  n1 : 0 < n
theorem Own.lst {w : World} {base : Nat} {v : Value} {j n : Nat} {x : Nat → Nat → Nat} (h : Own w base v j n x) (hj : 0 < j) (hn : 0 < n) : ∃ g cap, v = .slice (some ⟨g, 0, none⟩) j cap ∧ base ≤ g ∧ Lst w g cap j n x := by
  obtain ⟨xs, ho, -, hx⟩ := h
  rcases ho.2 with ⟨-, e⟩ | ⟨g, cap, cur, rfl, hb, hg, hle, -, hs, ht⟩
  · omega
  · rw [Nat.mul_one] at hs ht
    refine ⟨g, cap, rfl, hb, hle, ⟨fun i => cur.getD i undef, ⟨cur, hg, hs, fun i hi => by simp [Array.getD, hs, hi]⟩, fun i hi => ?_⟩, hj, hn⟩
    obtain ⟨b, c, h1, h2⟩ := hx i hi
    refine ⟨b, c, ?_, h2⟩
    have e : cur.toList[i]? = some (.slice (some ⟨b, 0, none⟩) n c) := by rw [← h1, ← ht, List.getElem?_take_of_lt hi]
    rw [Array.getElem?_toList] at e
    obtain ⟨hl, e⟩ := Array.getElem?_eq_some_iff.1 e
    show cur.getD i undef = _
    rw [Array.getD, dif_pos hl]
    exact e
theorem Lst.at {w : World} {g cap m n : Nat} {x : Nat → Nat → Nat} (h : Lst w g cap m n x) (i : Nat) (hi : i < m) : ∃ b c, w.cell? ⟨g, i, none⟩ = some (.slice (some ⟨b, 0, none⟩) n c) ∧ BytesAt w (some ⟨b, 0, none⟩) n (x i) ∧ w.frozen? ⟨g, i, none⟩ = false := by
  obtain ⟨A, hr, hA⟩ := h.row
  obtain ⟨b, c, h1, h2⟩ := hA i hi
  exact ⟨b, c, by rw [hr.cell (by have := h.le; omega), h1], h2, hr.frozen i⟩
theorem Lst.lt {w : World} {g cap m n : Nat} {x : Nat → Nat → Nat} (h : Lst w g cap m n x) : g < w.heap.size := by obtain ⟨A, hr, -⟩ := h.row; exact hr.lt
theorem Lst.ne {w : World} {g cap m n b n' : Nat} {x : Nat → Nat → Nat} {y : Nat → Nat} (h : Lst w g cap m n x) (hb : BytesAt w (some ⟨b, 0, none⟩) n' y) (hn : 0 < n') : b ≠ g := by
  rintro rfl
  obtain ⟨b1, c1, h1, -⟩ := h.at 0 h.m1
  have h3 := bytes_cell hb 0 hn
  rw [Nat.add_zero, h1] at h3
  cases h3
theorem Lst.grew {w w' : World} {g cap m n : Nat} {x : Nat → Nat → Nat} (h : Lst w g cap m n x) (hb : Below w.heap.size w w') : Lst w' g cap m n x := by
  obtain ⟨A, hr, hA⟩ := h.row
  refine ⟨h.le, ⟨A, hr.of_block (hb.block g hr.lt), fun i hi => ?_⟩, h.m1, h.n1⟩
  obtain ⟨b, c, h1, h2⟩ := hA i hi
  exact ⟨b, c, h1, h2.grew hb⟩
theorem Lst.set {w : World} {g cap m n b c : Nat} {x : Nat → Nat → Nat} {y : Nat → Nat} (h : Lst w g cap m n x) (i : Nat) (hb : BytesAt w (some ⟨b, 0, none⟩) n y) (x' : Nat → Nat → Nat) (hx : ∀ j, j < m → x' j = if j = i then y else x j) :
    Lst (w.setCell ⟨g, i, none⟩ (.slice (some ⟨b, 0, none⟩) n c)) g cap m n x' := by
  obtain ⟨A, hr, hA⟩ := h.row
  refine ⟨h.le, ⟨_, hr.set i _, fun j hj => ?_⟩, h.m1, h.n1⟩
  rw [hx j hj]
  by_cases e : j = i
  · rw [if_pos e, if_pos e]
    exact ⟨b, c, rfl, hb.setOther (h.ne hb h.n1)⟩
  · rw [if_neg e, if_neg e]
    obtain ⟨b', c', h1, h2⟩ := hA j hj
    exact ⟨b', c', h1, h2.setOther (h.ne h2 h.n1)⟩
theorem Lst.other {w : World} {g cap m n g' cap' m' n' : Nat} {x x' : Nat → Nat → Nat} (h : Lst w g cap m n x) (h' : Lst w g' cap' m' n' x') (hne : g ≠ g') (i : Nat) (v : Value) : Lst (w.setCell ⟨g', i, none⟩ v) g cap m n x := by
  obtain ⟨A, hr, hA⟩ := h.row
  refine ⟨h.le, ⟨A, hr.setOther hne v, fun j hj => ?_⟩, h.m1, h.n1⟩
  obtain ⟨b, c, h1, h2⟩ := hA j hj
  exact ⟨b, c, h1, h2.setOther (h'.ne h2 h.n1)⟩
theorem Own.lt {w : World} {base : Nat} {v : Value} {j n : Nat} {x : Nat → Nat → Nat} (h : Own w base v j n x) (g : Nat) (e : v.ownBlock = some g) : base ≤ g ∧ g < w.heap.size := by
  obtain ⟨xs, ho, -, -⟩ := h
  exact ho.lt g e
end Go.Proofs.Ythlidbenhlidjaa

/-
  What came in as rows of arrays of bytes, as rows of rows of bytes, as an array of bytes: read as plain functions. No program.
-/
namespace Go.Proofs.Ythlidbenhlidjaa
open Go.ChangeShapes Go.WideShapes Go.RowKit Go.Deep

section
variable {H : Type} {enc : TypeId × Value → H} {P : Program} {w : World} {base : Nat} {spare : Nat → Bool} {held : Bool}

theorem wf_u8 {z : Int} (h : (Lit.int .u8 z).wf = true) : ∃ n : Nat, z = n ∧ n < 256 := int_nat z (by have := bounds_u8 h; omega)

/-- The cells of an array of bytes. -/
theorem trod_u8s {t e : TypeId} {n fuel : Nat} {cs : List Value} {x : DataW H × List MemPlace} (ht : P.underlying t = some (.array n e)) (he : P.underlying e = some (.int .u8)) (hc : P.cellsOf e = 1) (hct : P.cellsOf t = n)
    (h : DataW.trod enc P w base spare held fuel t cs = some x) : cs.length = n ∧ ∃ f : Nat → Nat, ∀ i, i < n → cs[i]? = some (.int .u8 (f i : Int)) ∧ f i < 256 := by
  obtain ⟨xs, m, -, -, hl, hx, hi⟩ := DataW.trod_array ht h
  rw [hct] at hl
  refine ⟨hl, ?_⟩
  have each : ∀ i, i < n → ∃ z : Nat, cs[i]? = some (.int .u8 (z : Int)) ∧ z < 256 := by
    intro i h0
    have g := hi i h0
    rw [hc, Nat.mul_one, List.getElem?_eq_getElem (by omega)] at g
    obtain ⟨z, e1, -, e3⟩ := DataW.trod_int he g
    obtain ⟨k, rfl, hk⟩ := wf_u8 e3
    refine ⟨k, ?_, hk⟩
    have e4 : ((cs.drop i).take 1)[0]? = some (.int .u8 (k : Int)) := by rw [e1]; rfl
    rw [List.getElem?_take_of_lt (by decide), List.getElem?_drop, Nat.add_zero] at e4
    exact e4
  obtain ⟨f, hf⟩ := choose_lt each
  exact ⟨f, hf⟩

/-- The slice's address a leads to len arrays of n bytes: the j-th of the i-th is f i j. -/
def ArrsAt (w : World) (a : Option Addr) (len n : Nat) (f : Nat → Nat → Nat) : Prop :=
  0 < len → ∃ b o, a = some ⟨b, o, none⟩ ∧ ∀ i, i < len → ∀ j, j < n → w.cell? ⟨b, o + (i * n + j), none⟩ = some (.int .u8 (f i j : Int)) ∧ f i j < 256

theorem add_add_plain (b o i j : Nat) : ((⟨b, o, none⟩ : Addr).add i).add j = ⟨b, o + (i + j), none⟩ := by
  have e : ∀ (x y : Nat), (⟨b, x, none⟩ : Addr).add y = ⟨b, x + y, none⟩ := fun x y => by unfold Addr.add; split <;> simp_all
  rw [e, e, Nat.add_assoc]
theorem open_arrs {t e q : TypeId} {n : Nat} {a : Option Addr} {len cap : Nat} {d : DataW H} {ps : List MemPlace} (ht : P.underlying t = some (.slice e)) (he : P.underlying e = some (.array n q)) (hq : P.underlying q = some (.int .u8)) (hc : P.cellsOf q = 1) (hce : P.cellsOf e = n) (hn : 0 < n)
    (h : DataW.Trod enc P w 0 (fun _ => true) true t (.slice a len cap) d ps) : ∃ f, ArrsAt w a len n f ∧ len ≤ cap ∧ cap ≤ maxLen := by
  obtain ⟨fuel, hf⟩ := h
  rcases open_slice ht hf with ⟨hcs, -⟩ | ⟨x, l, c, m, k, D, Pl, hcs, -, hl, hm, hmm, -, hi⟩
  · simp [Value.cells] at hcs
    obtain ⟨rfl, rfl, rfl⟩ := hcs
    exact ⟨fun _ _ => 0, fun h => absurd h (by omega), by omega, by unfold maxLen; omega⟩
  · simp [Value.cells] at hcs
    obtain ⟨rfl, rfl, rfl⟩ := hcs
    simp only [if_true] at hmm
    subst hmm
    have each : ∀ i, i < len → ∃ f : Nat → Nat, ∀ j, j < n → w.cell? ((x.add (i * n)).add j) = some (.int .u8 (f j : Int)) ∧ f j < 256 := by
      intro i h0
      obtain ⟨cs', h1, h2⟩ := hi i (by omega)
      rw [hce] at h1
      obtain ⟨-, h4, h5⟩ := World.cells?_some h1
      obtain ⟨-, f, h7⟩ := trod_u8s he hq hc hce h2
      exact ⟨f, fun j hj => ⟨by rw [h5 j hj]; exact (h7 j hj).1, (h7 j hj).2⟩⟩
    obtain ⟨f, hf⟩ := choose_lt each
    refine ⟨f, fun h0 => ?_, hl, hm⟩
    have hs := (hf 0 h0 0 hn).1
    rw [Nat.zero_mul] at hs
    have hx : x.spot = none := addr_plain (w := w) (x := x) hs
    obtain ⟨b, o, s⟩ := x
    simp only at hx
    subst hx
    refine ⟨b, o, rfl, fun i h1 j h2 => ?_⟩
    have := hf i h1 j h2
    rw [add_add_plain] at this
    exact this

/-- A slice of bytes. -/
theorem open_bytes {t e : TypeId} {a : Option Addr} {len cap : Nat} {d : DataW H} {ps : List MemPlace} (ht : P.underlying t = some (.slice e)) (he : P.underlying e = some (.int .u8)) (hc : P.cellsOf e = 1)
    (h : DataW.Trod enc P w 0 (fun _ => true) true t (.slice a len cap) d ps) : ∃ x, BytesAt w a len x ∧ len ≤ cap ∧ cap ≤ maxLen := by
  obtain ⟨fuel, hf⟩ := h
  rcases open_slice ht hf with ⟨hcs, -⟩ | ⟨x, l, c, m, k, D, Pl, hcs, -, hl, hm, hmm, -, hi⟩
  · simp [Value.cells] at hcs
    obtain ⟨rfl, rfl, rfl⟩ := hcs
    exact ⟨fun _ => 0, ⟨fun h => absurd h (by omega), fun i hi => absurd hi (by omega)⟩, by omega, by unfold maxLen; omega⟩
  · simp [Value.cells] at hcs
    obtain ⟨rfl, rfl, rfl⟩ := hcs
    simp only [if_true] at hmm
    subst hmm
    have each : ∀ i, i < len → ∃ z : Nat, w.cell? (x.add i) = some (.int .u8 (z : Int)) ∧ z < 256 := by
      intro i h0
      obtain ⟨cs', h1, h2⟩ := hi i (by omega)
      rw [hc, Nat.mul_one] at h1
      obtain ⟨-, -, h5⟩ := World.cells?_some h1
      obtain ⟨z, e1, -, e3⟩ := DataW.trod_int he h2
      obtain ⟨n, rfl, hn⟩ := wf_u8 e3
      refine ⟨n, ?_, hn⟩
      have h6 := h5 0 (by omega)
      rw [e1] at h6
      exact h6
    obtain ⟨f, hf⟩ := choose_lt each
    refine ⟨f, ⟨fun h0 => ?_, fun i hi => (hf i hi).2⟩, hl, hm⟩
    have hs := (hf 0 h0).1
    have hx : x.spot = none := addr_plain (w := w) (x := x) hs
    obtain ⟨b, o, s⟩ := x
    simp only at hx
    subst hx
    refine ⟨b, o, rfl, fun i h1 => ?_⟩
    have := (hf i h1).1
    rwa [show (⟨b, o, none⟩ : Addr).add i = ⟨b, o + i, none⟩ by unfold Addr.add; split <;> simp_all] at this

/-- The slice's address a leads to len slices of bytes: the i-th is (A i, L i, C i), its bytes Z i. -/
def ListsAt (w : World) (a : Option Addr) (len : Nat) (A : Nat → Option Addr) (L C : Nat → Nat) (Z : Nat → Nat → Nat) : Prop :=
  0 < len → ∃ b o, a = some ⟨b, o, none⟩ ∧ ∀ i, i < len → w.cell? ⟨b, o + i, none⟩ = some (.slice (A i) (L i) (C i)) ∧ L i ≤ C i ∧ C i ≤ maxLen ∧ BytesAt w (A i) (L i) (Z i)

theorem open_lists {t e q : TypeId} {a : Option Addr} {len cap : Nat} {d : DataW H} {ps : List MemPlace} (ht : P.underlying t = some (.slice e)) (he : P.underlying e = some (.slice q)) (hq : P.underlying q = some (.int .u8)) (ce : P.cellsOf e = 1) (cq : P.cellsOf q = 1)
    (h : DataW.Trod enc P w 0 (fun _ => true) true t (.slice a len cap) d ps) : ∃ A L C Z, ListsAt w a len A L C Z ∧ len ≤ cap ∧ cap ≤ maxLen := by
  obtain ⟨fuel, hf⟩ := h
  rcases open_int_rows ht he hq ce cq hf with ⟨hcs, -⟩ | ⟨x, l, c, A, L, C, Z, hcs, -, hl, hm, -, hi⟩
  · simp [Value.cells] at hcs
    obtain ⟨rfl, rfl, rfl⟩ := hcs
    exact ⟨fun _ => none, fun _ => 0, fun _ => 0, fun _ _ => 0, fun h => absurd h (by omega), by omega, by unfold maxLen; omega⟩
  · simp [Value.cells] at hcs
    obtain ⟨rfl, rfl, rfl⟩ := hcs
    refine ⟨A, L, C, fun r i => ((Z r).getD i 0).toNat, fun h0 => ?_, hl, hm⟩
    have hx : x.spot = none := addr_plain (w := w) (x := x) (hi 0 (by omega)).1
    obtain ⟨b, o, s⟩ := x
    simp only at hx
    subst hx
    refine ⟨b, o, rfl, fun i h1 => ?_⟩
    obtain ⟨g1, g2, g3, g4, g5, g6, g7⟩ := hi i (by omega)
    have ea : (⟨b, o, none⟩ : Addr).add i = ⟨b, o + i, none⟩ := by unfold Addr.add; split <;> simp_all
    rw [ea] at g1
    have hcame : Came w (A i) (L i) (C i) (Z i) := by
      cases hA : A i with
      | none =>
        have := g6 hA
        exact .inl ⟨rfl, by omega, this, List.eq_nil_of_length_eq_zero (by omega)⟩
      | some a' => exact .inr ⟨a', rfl, g2, g3, g4, fun k hk => (g7 a' hA).2 k (by omega), g5⟩
    exact ⟨g1, g2, g3, hcame.bytes.1⟩

/-- An array of bytes that came in by value. -/
theorem open_arr_u8 {r : Reach} {b0 : Nat} {t e : TypeId} {n : Nat} {v : Value} {d : DataW H} {ps : List MemPlace} (ht : P.underlying t = some (.array n e)) (he : P.underlying e = some (.int .u8)) (hc : P.cellsOf e = 1) (hct : P.cellsOf t = n)
    (hval : Value.okWide P w r b0 t v) (h : DataW.Trod enc P w 0 (fun _ => true) true t v d ps) : ∃ (c : Array Value) (f : Nat → Nat), v = .agg c ∧ c.size = n ∧ ∀ i, i < n → c[i]? = some (.int .u8 (f i : Int)) ∧ f i < 256 := by
  simp only [Value.okWide, ht] at hval
  obtain ⟨c, rfl, h2, -⟩ := hval
  obtain ⟨fuel, hf⟩ := h
  obtain ⟨h3, f, h4⟩ := trod_u8s ht he hc hct hf
  refine ⟨c, f, rfl, by rw [h2, hct], fun i hi => ?_⟩
  have := h4 i hi
  simpa [Value.cells] using this
end
end Go.Proofs.Ythlidbenhlidjaa

/-
  The bytes as a field of 256: tables of the root's powers and logs, the product bit by bit, and the laws of the field. Plain mathematics: nothing here speaks of a program.
-/
namespace Go.Proofs.Ythlidbenhlidjaa.Gf

def pwT : Nat := 70160881166704368827218703435136616750530459438269794890424969378298545675077208731798828898087927652446353395360628748027273188182808436399538186061104243134188885576122562338679313492324190829158544377810568631194580132524405266702234305646236648896994794467054525044798919765581988418950285252905306116225263236585714808161311289784028762024137133735135393922581566890382566480334369299400480864790538739986285574563168380416343369614948461817839620668187777978661530364712890858126432457562886306102556561631759900551331094983229723298224611133722330829711659991602983068895685602467964643306841827719562658305
def lgT : Nat := 22135253156888987530748098150270024343632497605293634117281264061560962248099620766229961468867162294233796152347975563017024165690400661622462404646302566225833645086064538892198543335321514950294300187779610338557442029018619797274438901674641748676613670242915365385819254959901651105240253464034662486586186382979728982817772067067513442677601938078891989292316012868233806586592927239821351197800766822366321181463280924672822998103315976779850880337712374790938628529953751181886374687897611504386983350015558142994211516619836411558782076806704747441947939324473761869443721989389604670425385080942269787340800
/-- The root's n-th power, n below 510 or any other. -/
def pw (n : Nat) : Nat := (pwT >>> (8 * (n % 255))) % 256
def lg (a : Nat) : Nat := (lgT >>> (8 * a)) % 256
/-- a times the root. -/
def dbl (a : Nat) : Nat := if a < 128 then 2 * a else (2 * a) ^^^ 285
/-- The product by logs. -/
def mul (a b : Nat) : Nat := if a = 0 ∨ b = 0 then 0 else pw (lg a + lg b)
def inv (a : Nat) : Nat := if a = 0 then 0 else pw (255 - lg a)
/-- The product bit by bit, n bits of y. -/
def mulBits : Nat → Nat → Nat → Nat
  | 0, _, _ => 0
  | n + 1, x, y => (if y % 2 = 1 then x else 0) ^^^ mulBits n (dbl x) (y / 2)

theorem all_of {n : Nat} {p : Nat → Bool} (h : (List.range n).all p = true) (i : Nat) (hi : i < n) : p i = true :=
  List.all_eq_true.1 h i (List.mem_range.2 hi)

theorem pw_zero : pw 0 = 1 := by decide +kernel
theorem pw_lt (n : Nat) : pw n < 256 := Nat.mod_lt _ (by decide)
theorem lg_lt256 (a : Nat) : lg a < 256 := Nat.mod_lt _ (by decide)
theorem pw_mod (n : Nat) : pw (n % 255) = pw n := by unfold pw; rw [Nat.mod_mod]
theorem pw_add255 (n : Nat) : pw (n + 255) = pw n := by unfold pw; rw [Nat.add_mod_right]
theorem lg_pw_small (n : Nat) (h : n < 255) : lg (pw n) = n := by
  have := all_of (n := 255) (p := fun n => lg (pw n) == n) (by decide +kernel) n h
  simpa using this
theorem lg_pw (n : Nat) : lg (pw n) = n % 255 := by
  rw [← pw_mod]; exact lg_pw_small _ (Nat.mod_lt _ (by decide))
theorem lg_lt (a : Nat) (h : a < 256) : lg a < 255 := by
  have := all_of (n := 256) (p := fun a => decide (lg a < 255)) (by decide +kernel) a h
  simpa using this
theorem pw_lg (a : Nat) (h : a < 256) (h0 : a ≠ 0) : pw (lg a) = a := by
  have := all_of (n := 256) (p := fun a => a == 0 || pw (lg a) == a) (by decide +kernel) a h
  simpa [h0] using this
theorem pw_pos (n : Nat) : pw n ≠ 0 := by
  have := all_of (n := 255) (p := fun n => pw n != 0) (by decide +kernel) (n % 255) (Nat.mod_lt _ (by decide))
  rw [pw_mod] at this
  simpa using this
theorem lg_zero : lg 0 = 0 := by decide +kernel
theorem pw_succ (n : Nat) : pw (n + 1) = dbl (pw n) := by
  have := all_of (n := 255) (p := fun n => pw (n + 1) == dbl (pw n)) (by decide +kernel) (n % 255) (Nat.mod_lt _ (by decide))
  have e : pw (n % 255 + 1) = pw (n + 1) := by rw [← pw_mod (n % 255 + 1), ← pw_mod (n + 1), Nat.mod_add_mod]
  rw [pw_mod, e] at this
  simpa using this
theorem dbl_lt (a : Nat) (h : a < 256) : dbl a < 256 := by
  have := all_of (n := 256) (p := fun a => decide (dbl a < 256)) (by decide +kernel) a h
  simpa using this

theorem mul_lt (a b : Nat) : mul a b < 256 := by unfold mul; split; omega; exact pw_lt _
theorem inv_lt (a : Nat) : inv a < 256 := by unfold inv; split; omega; exact pw_lt _
theorem mul_comm (a b : Nat) : mul a b = mul b a := by
  unfold mul
  by_cases h : a = 0 ∨ b = 0
  · rw [if_pos h, if_pos h.symm]
  · rw [if_neg h, if_neg (fun g => h g.symm), Nat.add_comm]
theorem mul_zero (a : Nat) : mul a 0 = 0 := by unfold mul; rw [if_pos (Or.inr rfl)]
theorem zero_mul (a : Nat) : mul 0 a = 0 := by unfold mul; rw [if_pos (Or.inl rfl)]
theorem mul_ne (a b : Nat) (ha : a ≠ 0) (hb : b ≠ 0) : mul a b = pw (lg a + lg b) := by
  unfold mul; rw [if_neg (fun h => h.elim ha hb)]
theorem mul_eq_zero (a b : Nat) : mul a b = 0 ↔ a = 0 ∨ b = 0 := by
  unfold mul
  by_cases h : a = 0 ∨ b = 0
  · simp [h]
  · rw [if_neg h]; exact ⟨fun g => absurd g (pw_pos _), fun g => absurd g h⟩
theorem pw_add_congr (m n k : Nat) (h : m % 255 = n % 255) : pw (m + k) = pw (n + k) := by
  rw [← pw_mod (m + k), ← pw_mod (n + k), Nat.add_mod, h, ← Nat.add_mod]
theorem pw_congr (m n : Nat) (h : m % 255 = n % 255) : pw m = pw n := by rw [← pw_mod m, h, pw_mod]
theorem mul_pw (m n : Nat) : mul (pw m) (pw n) = pw (m + n) := by
  rw [mul_ne _ _ (pw_pos _) (pw_pos _), lg_pw, lg_pw]
  exact pw_congr _ _ (by omega)
theorem mul_assoc (a b c : Nat) : mul a (mul b c) = mul (mul a b) c := by
  by_cases ha : a = 0
  · subst ha; simp [zero_mul]
  by_cases hb : b = 0
  · subst hb; simp [zero_mul, mul_zero]
  by_cases hc : c = 0
  · subst hc; simp [mul_zero]
  rw [mul_ne b c hb hc, mul_ne a b ha hb, mul_ne _ c (pw_pos _) hc, mul_ne a _ ha (pw_pos _), lg_pw, lg_pw]
  exact pw_congr _ _ (by omega)
theorem mul_one (a : Nat) (h : a < 256) : mul a 1 = a := by
  by_cases ha : a = 0
  · subst ha; exact zero_mul 1
  · rw [mul_ne a 1 ha (by decide), show lg 1 = 0 by decide +kernel, Nat.add_zero, pw_lg a h ha]
theorem mul_inv (a : Nat) (h : a < 256) (h0 : a ≠ 0) : mul a (inv a) = 1 := by
  have hl := lg_lt a h
  unfold inv; rw [if_neg h0, mul_ne a _ h0 (pw_pos _), lg_pw, ← pw_zero]
  exact pw_congr _ _ (by omega)

/-! ### bit by bit -/
theorem xor4 (a b c d : Nat) : (a ^^^ b) ^^^ (c ^^^ d) = (a ^^^ c) ^^^ (b ^^^ d) := by
  rw [Nat.xor_assoc, Nat.xor_assoc, ← Nat.xor_assoc b c d, Nat.xor_comm b c, Nat.xor_assoc c b d]
theorem dbl_eq (a : Nat) (h : a < 256) : dbl a = (2 * a) ^^^ ((a / 128) * 285) := by
  unfold dbl
  split
  · rw [show a / 128 = 0 by omega]; simp
  · rw [show a / 128 = 1 by omega]
theorem dbl_xor (a b : Nat) (ha : a < 256) (hb : b < 256) : dbl (a ^^^ b) = dbl a ^^^ dbl b := by
  have hx : a ^^^ b < 256 := Nat.xor_lt_two_pow (n := 8) ha hb
  have e2 : 2 * (a ^^^ b) = (2 * a) ^^^ (2 * b) := by
    have := Nat.shiftLeft_xor_distrib (a := a) (b := b) (i := 1)
    simpa [Nat.shiftLeft_eq, Nat.mul_comm] using this
  have e3 : (a ^^^ b) / 128 = (a / 128) ^^^ (b / 128) := by
    have := Nat.xor_div_two_pow (a := a) (b := b) (n := 7); simpa using this
  rw [dbl_eq _ hx, dbl_eq _ ha, dbl_eq _ hb, e2, e3]
  have h1 : a / 128 = 0 ∨ a / 128 = 1 := by omega
  have h2 : b / 128 = 0 ∨ b / 128 = 1 := by omega
  rw [xor4 (2 * a) _ (2 * b) _]
  rcases h1 with h1 | h1 <;> rcases h2 with h2 | h2 <;> rw [h1, h2] <;> congr 1
theorem mulBits_lt (n : Nat) : ∀ x y, x < 256 → mulBits n x y < 256 := by
  induction n with
  | zero => intro x y _; show 0 < 256; decide
  | succ n ih =>
    intro x y hx
    unfold mulBits
    refine Nat.xor_lt_two_pow (n := 8) ?_ (ih _ _ (dbl_lt x hx))
    split <;> omega
theorem mod2_xor (y z : Nat) : (y ^^^ z) % 2 = (y % 2 + z % 2) % 2 := by
  have e : (y ^^^ z) % 2 = (y % 2) ^^^ (z % 2) := by
    have := Nat.xor_mod_two_pow (a := y) (b := z) (n := 1); simpa using this
  rw [e]
  rcases Nat.mod_two_eq_zero_or_one y with h | h <;> rcases Nat.mod_two_eq_zero_or_one z with g | g <;> rw [h, g] <;> decide
theorem div2_xor (y z : Nat) : (y ^^^ z) / 2 = (y / 2) ^^^ (z / 2) := by
  have := Nat.xor_div_two_pow (a := y) (b := z) (n := 1); simpa using this
theorem mulBits_xor (n : Nat) : ∀ x y z, mulBits n x (y ^^^ z) = mulBits n x y ^^^ mulBits n x z := by
  induction n with
  | zero => intro x y z; show 0 = 0 ^^^ 0; decide
  | succ n ih =>
    intro x y z
    unfold mulBits
    rw [div2_xor, ih, xor4]
    congr 1
    rw [mod2_xor]
    rcases Nat.mod_two_eq_zero_or_one y with h | h <;> rcases Nat.mod_two_eq_zero_or_one z with g | g <;> simp [h, g]
theorem mulBits_dbl (n : Nat) : ∀ x y, x < 256 → mulBits n (dbl x) y = dbl (mulBits n x y) := by
  induction n with
  | zero => intro x y _; show 0 = dbl 0; decide
  | succ n ih =>
    intro x y hx
    have hd := dbl_lt x hx
    unfold mulBits
    rw [dbl_xor _ _ (by split <;> omega) (mulBits_lt n _ _ hd), ih _ _ hd]
    congr 1
    split <;> first | rfl | decide
theorem mulBits_one (y : Nat) (h : y < 256) : mulBits 8 1 y = y := by
  have := all_of (n := 256) (p := fun y => mulBits 8 1 y == y) (by decide +kernel) y h
  simpa using this
theorem mulBits_pw (m n : Nat) : mulBits 8 (pw m) (pw n) = pw (m + n) := by
  induction m with
  | zero => rw [pw_zero, mulBits_one _ (pw_lt n), Nat.zero_add]
  | succ m ih => rw [pw_succ, mulBits_dbl 8 _ _ (pw_lt m), ih, ← pw_succ, Nat.add_right_comm]
theorem mulBits_zero (n : Nat) : ∀ x, mulBits n x 0 = 0 := by
  induction n with
  | zero => intro x; rfl
  | succ n ih => intro x; unfold mulBits; rw [if_neg (by decide), show 0 / 2 = 0 from rfl, ih]; decide
theorem zero_mulBits (n : Nat) : ∀ y, mulBits n 0 y = 0 := by
  induction n with
  | zero => intro y; rfl
  | succ n ih => intro y; unfold mulBits; rw [show dbl 0 = 0 from rfl, ih]; simp
theorem mul_eq_mulBits (a b : Nat) (ha : a < 256) (hb : b < 256) : mul a b = mulBits 8 a b := by
  by_cases h : a = 0
  · subst h; rw [zero_mul, zero_mulBits]
  by_cases g : b = 0
  · subst g; rw [mul_zero, mulBits_zero]
  rw [← pw_lg a ha h, ← pw_lg b hb g, mul_pw, mulBits_pw]
theorem xor_lt (a b : Nat) (ha : a < 256) (hb : b < 256) : a ^^^ b < 256 := Nat.xor_lt_two_pow (n := 8) ha hb
theorem mul_xor (a b c : Nat) (ha : a < 256) (hb : b < 256) (hc : c < 256) : mul a (b ^^^ c) = mul a b ^^^ mul a c := by
  rw [mul_eq_mulBits a _ ha (xor_lt b c hb hc), mul_eq_mulBits a b ha hb, mul_eq_mulBits a c ha hc, mulBits_xor]
theorem xor_mul (a b c : Nat) (ha : a < 256) (hb : b < 256) (hc : c < 256) : mul (a ^^^ b) c = mul a c ^^^ mul b c := by
  rw [mul_comm, mul_xor c a b hc ha hb, mul_comm c a, mul_comm c b]

#print axioms mul_xor
end Go.Proofs.Ythlidbenhlidjaa.Gf

/-
  Contracts of package field of the program: what New, Mul, Inv, Div, Exp and Log answer, in terms of the tables of Gf.
-/
namespace Go.Proofs.Ythlidbenhlidjaa
open Go.RowKit

theorem dbl_hi (n : Nat) (hn : n < 256) : (bits .and .i64 ((n : Int) * 2) 256 != 0) = decide (128 ≤ n) := by
  have := Gf.all_of (n := 256) (p := fun n => (bits .and .i64 ((n : Int) * 2) 256 != 0) == decide (128 ≤ n)) (by decide +kernel) n hn
  simpa using this
theorem dbl_yes (n : Nat) (hn : n < 256) (h : 128 ≤ n) : bits .xor .i64 ((n : Int) * 2) 285 % 256 = (Gf.dbl n : Int) := by
  have := Gf.all_of (n := 256) (p := fun n => decide (n < 128) || bits .xor .i64 ((n : Int) * 2) 285 % 256 == (Gf.dbl n : Int)) (by decide +kernel) n hn
  simpa [show ¬ n < 128 by omega] using this
set_option maxRecDepth 100000 in
set_option maxHeartbeats 400000 in
theorem double_any (n : Nat) (hn : n < 256) (w : World) :
    Calls Try.prog 21 #[.int .u8 n] w fun e w' => e = .returned (.int .u8 (Gf.dbl n)) ∧ w' = w := by
  have hb := dbl_hi n hn
  by_cases h : 128 ≤ n
  · have hy := dbl_yes n hn h
    have HY : Hid (bits .xor .i64 ((n : Int) * 2) 285 % 256 = (Gf.dbl n : Int)) := hy
    clear hy
    rw [decide_eq_true h] at hb
    go_enter Try.func21, Try.ntmps21
    go_wp2
    go_ret
    exact ⟨ret_int HY.out, rfl⟩
  · rw [decide_eq_false h] at hb
    have HN : Hid ((n : Int) * 2 = (Gf.dbl n : Int)) := by show (n : Int) * 2 = _; unfold Gf.dbl; rw [if_pos (by omega)]; omega
    go_enter Try.func21, Try.ntmps21
    go_wp2
    go_ret
    exact ⟨ret_int HN.out, rfl⟩


def zeros : Array Value := Array.replicate 766 (.int .u8 0)
theorem zero_field (w : World) : (zeroValue 62).run Try.prog w = .ok (.agg zeros) w := by kernel_rfl


/-- The block B of w holds the tables of New behind k rounds. -/
structure Filled (w : World) (B k : Nat) : Prop where
  powers : ∀ i, i < 510 → w.cell? ⟨B, i, none⟩ = some (.int .u8 ((if i % 255 < k then Gf.pw i else 0 : Nat) : Int))
  logs : ∀ a, a < 256 → w.cell? ⟨B, 510 + a, none⟩ = some (.int .u8 ((if a ≠ 0 ∧ Gf.lg a < k then Gf.lg a else 0 : Nat) : Int))
  thawed : ∀ o, o < 766 → w.frozen? ⟨B, o, none⟩ = false
  size : w.heap.size = B + 1


theorem zeros_get (i : Nat) (h : i < 766) : zeros[i]? = some (.int .u8 0) := by
  unfold zeros; rw [Array.getElem?_replicate, if_pos h]

theorem Filled.start (w : World) : Filled (w.alloc (.cells zeros 62)) w.heap.size 0 := by
  refine ⟨fun i hi => ?_, fun a ha => ?_, fun o ho => ?_, ?_⟩
  · rw [World.cell?_alloc_at _ _ _ _ rfl, zeros_get i (by omega)]; simp
  · rw [World.cell?_alloc_at _ _ _ _ rfl, zeros_get _ (by omega)]; simp
  · rw [frozen?_alloc_cells]; simp [World.frozen?]
  · simp

theorem addr_ne {B x y : Nat} (h : x ≠ y) : (⟨B, x, none⟩ : Addr) ≠ ⟨B, y, none⟩ := fun e => h (Addr.mk.inj e).2.1

theorem Filled.step {w : World} {B k : Nat} (hf : Filled w B k) (hk : k < 255) :
    Filled (((w.setCell ⟨B, k, none⟩ (.int .u8 (Gf.pw k))).setCell ⟨B, k + 255, none⟩ (.int .u8 (Gf.pw k))).setCell ⟨B, 510 + Gf.pw k, none⟩ (.int .u8 k)).drew B (k + 1) := by
  have hp := Gf.pw_lt k
  refine ⟨fun i hi => ?_, fun a ha => ?_, fun o ho => ?_, ?_⟩
  · rw [World.cell?_drew, World.cell?_setCell_other _ _ _ _ (addr_ne (by omega))]
    by_cases h2 : i = k + 255
    · subst h2
      rw [World.cell?_setCell_same _ _ _ (by rw [World.cell?_setCell_other _ _ _ _ (addr_ne (by omega))]; exact hf.powers _ hi), if_pos (by omega), Gf.pw_add255]
    · rw [World.cell?_setCell_other _ _ _ _ (addr_ne (by omega))]
      by_cases h1 : i = k
      · subst h1
        rw [World.cell?_setCell_same _ _ _ (hf.powers _ hi), if_pos (by omega)]
      · rw [World.cell?_setCell_other _ _ _ _ (addr_ne (by omega)), hf.powers i hi]
        by_cases h3 : i % 255 < k
        · rw [if_pos h3, if_pos (by omega)]
        · rw [if_neg h3, if_neg (by omega)]
  · rw [World.cell?_drew]
    by_cases h1 : a = Gf.pw k
    · rw [h1, World.cell?_setCell_same _ _ _ (by rw [World.cell?_setCell_other _ _ _ _ (addr_ne (by omega)), World.cell?_setCell_other _ _ _ _ (addr_ne (by omega))]; exact hf.logs _ hp), Gf.lg_pw_small k hk, if_pos ⟨Gf.pw_pos k, by omega⟩]
    · rw [World.cell?_setCell_other _ _ _ _ (addr_ne (by omega)), World.cell?_setCell_other _ _ _ _ (addr_ne (by omega)), World.cell?_setCell_other _ _ _ _ (addr_ne (by omega)), hf.logs a ha]
      by_cases h0 : a = 0
      · subst h0; simp
      · have hne : Gf.lg a ≠ k := fun e => h1 (by rw [← e, Gf.pw_lg a ha h0])
        by_cases h3 : Gf.lg a < k
        · rw [if_pos ⟨h0, h3⟩, if_pos ⟨h0, by omega⟩]
        · rw [if_neg (fun h => h3 h.2), if_neg (fun h => by omega)]
  · have := hf.thawed o ho
    simpa using this
  · have := hf.size
    simpa [World.setCell] using this

/-- The block b of w holds a field's tables. -/
structure FieldAt (w : World) (b : Nat) : Prop where
  powers : ∀ i, i < 510 → w.cell? ⟨b, i, none⟩ = some (.int .u8 (Gf.pw i))
  logs : ∀ a, a < 256 → w.cell? ⟨b, 510 + a, none⟩ = some (.int .u8 (Gf.lg a))

theorem Filled.field {w : World} {B : Nat} (h : Filled w B 255) : FieldAt w B := by
  refine ⟨fun i hi => ?_, fun a ha => ?_⟩
  · rw [h.powers i hi, if_pos (by omega)]
  · rw [h.logs a ha]
    have := Gf.lg_lt a ha
    by_cases h0 : a = 0
    · subst h0; rw [if_neg (by simp), Gf.lg_zero]
    · rw [if_pos ⟨h0, this⟩]
theorem FieldAt.below {w w' : World} {b B : Nat} (h : FieldAt w b) (hb : Below B w w') (hB : b < B) : FieldAt w' b :=
  ⟨fun i hi => (hb.cell (p := ⟨b, i, none⟩) hB).trans (h.powers i hi), fun a ha => (hb.cell (p := ⟨b, 510 + a, none⟩) hB).trans (h.logs a ha)⟩
theorem FieldAt.drewN {w : World} {b : Nat} (h : FieldAt w b) (n : Nat) : FieldAt (w.drewN n) b := ⟨h.powers, h.logs⟩
theorem FieldAt.lt {w : World} {b : Nat} (h : FieldAt w b) : b < w.heap.size := by
  by_cases g : b < w.heap.size
  · exact g
  · exfalso
    have := h.powers 0 (by omega)
    simp [World.cell?, g] at this

set_option maxRecDepth 100000 in
set_option maxHeartbeats 400000 in
theorem new_any (w : World) :
    Calls Try.prog 9 #[] w fun e w' => e = .returned (.pointer (some ⟨w.heap.size, 0, none⟩)) ∧ Below w.heap.size w w' ∧ FieldAt w' w.heap.size ∧ w'.heap.size = w.heap.size + 1 := by
  have hz := fun w => zero_field w
  go_enter Try.func9, Try.ntmps9
  go_wp2_with fail
  clear hz
  go_loopw [2, 6] (fun p i wr => ∃ k : Nat, k ≤ 255 ∧ i = .int .i64 k ∧ p = .int .u8 (Gf.pw k) ∧ Filled wr w.heap.size k ∧ Below w.heap.size w wr) (fun _ i _ => 255 - (intOf i).toNat)
  case atStart => exact ⟨0, Nat.zero_le _, rfl, by rw [Gf.pw_zero]; rfl, Filled.start w, (Below.refl _ _).alloc (Nat.le_refl _) _⟩
  case round =>
    obtain ⟨k, hk, rfl, rfl, hf, hb⟩ := hrel
    by_cases hlt : k < 255
    · obtain ⟨q, hq⟩ : ∃ q, q = Gf.pw k := ⟨_, rfl⟩
      have hp : q < 256 := by rw [hq]; exact Gf.pw_lt k
      obtain ⟨v1, c1⟩ : ∃ v, wr.cell? ⟨w.heap.size, k, none⟩ = some v := ⟨_, hf.powers k (by omega)⟩
      obtain ⟨v2, c2⟩ : ∃ v, wr.cell? ⟨w.heap.size, k + 255, none⟩ = some v := ⟨_, hf.powers (k + 255) (by omega)⟩
      obtain ⟨v3, c3⟩ : ∃ v, wr.cell? ⟨w.heap.size, 510 + q, none⟩ = some v := ⟨_, hf.logs q hp⟩
      have f1 := hf.thawed k (by omega)
      have f2 := hf.thawed (k + 255) (by omega)
      have f3 := hf.thawed (510 + q) (by omega)
      rw [← hq]
      have HQ : Hid (q = Gf.pw k) := hq
      clear hq
      go_wp2_with fail
      go_region
      go_wp2_with (go_at_call 21; refine (double_any _ hp _).mono ?_; rintro e w' ⟨rfl, rfl⟩)
      go_roundw
      case rel =>
        have hq := HQ.out
        subst hq
        exact ⟨k + 1, by omega, by go_num, by rw [Gf.pw_succ], hf.step hlt, (((hb.setCell (Nat.le_refl _) _).setCell (Nat.le_refl _) _).setCell (Nat.le_refl _) _).drew⟩
      case measure => simp [intOf]; omega
    · have hk' : k = 255 := by omega
      subst hk'
      go_wp2
      go_ret
      exact ⟨rfl, hb, hf.field, hf.size⟩

set_option maxRecDepth 100000 in
set_option maxHeartbeats 400000 in
theorem made_yes (b : Nat) (w : World) (h : FieldAt w b) :
    Calls Try.prog 48 #[.pointer (some ⟨b, 0, none⟩)] w fun e w' => e = .returned (.bool true) ∧ w' = w := by
  have h0 : w.cell? ⟨b, 0, none⟩ = some (.int .u8 1) := h.powers 0 (by omega)
  clear h
  go_enter Try.func48, Try.ntmps48
  go_wp2
  go_ret
  exact ⟨rfl, rfl⟩

set_option maxRecDepth 100000 in
set_option maxHeartbeats 400000 in
theorem product_zero (p : Value) (a c : Nat) (w : World) (h : a = 0 ∨ c = 0) :
    Calls Try.prog 50 #[p, .int .u8 a, .int .u8 c] w fun e w' => e = .returned (.int .u8 0) ∧ w' = w := by
  by_cases ha : a = 0
  · subst ha
    clear h
    go_enter Try.func50, Try.ntmps50
    go_wp2
    go_ret
    exact ⟨rfl, rfl⟩
  · have hc : c = 0 := by omega
    subst hc
    have ha' : ((a : Int) == 0) = false := by simp; omega
    clear h ha
    go_enter Try.func50, Try.ntmps50
    go_wp2
    go_ret
    exact ⟨rfl, rfl⟩

set_option maxRecDepth 100000 in
set_option maxHeartbeats 400000 in
theorem product_ne (b a c : Nat) (w : World) (h : FieldAt w b) (ha : a < 256) (hc : c < 256) (ha0 : a ≠ 0) (hc0 : c ≠ 0) :
    Calls Try.prog 50 #[.pointer (some ⟨b, 0, none⟩), .int .u8 a, .int .u8 c] w fun e w' => e = .returned (.int .u8 (Gf.pw (Gf.lg a + Gf.lg c))) ∧ ∃ n, w' = w.drewN n := by
  have hx := Gf.lg_lt a ha
  have hy := Gf.lg_lt c hc
  have c1 := h.logs a ha
  have c2 := h.logs c hc
  have c3 := h.powers (Gf.lg a + Gf.lg c) (by omega)
  have ha' : ((a : Int) == 0) = false := by simp; omega
  have hc' : ((c : Int) == 0) = false := by simp; omega
  generalize Gf.lg a = x at *
  generalize Gf.lg c = y at *
  generalize Gf.pw (x + y) = z at *
  clear h ha0 hc0
  have ha2 : (a : Int) < 256 := by omega
  have hc2 : (c : Int) < 256 := by omega
  go_enter Try.func50, Try.ntmps50
  go_wp2
  go_quiet (fail)
  go_wp2
  go_ret
  exact ⟨rfl, nq, rfl⟩

theorem product_any (b a c : Nat) (w : World) (h : FieldAt w b) (ha : a < 256) (hc : c < 256) :
    Calls Try.prog 50 #[.pointer (some ⟨b, 0, none⟩), .int .u8 a, .int .u8 c] w fun e w' => e = .returned (.int .u8 (Gf.mul a c)) ∧ ∃ n, w' = w.drewN n := by
  by_cases h0 : a = 0 ∨ c = 0
  · refine (product_zero _ a c w h0).mono ?_
    rintro e w' ⟨rfl, rfl⟩
    refine ⟨?_, 0, rfl⟩
    unfold Gf.mul; rw [if_pos h0]; rfl
  · refine (product_ne b a c w h ha hc (fun g => h0 (.inl g)) (fun g => h0 (.inr g))).mono ?_
    rintro e w' ⟨rfl, n, rfl⟩
    refine ⟨?_, n, rfl⟩
    unfold Gf.mul; rw [if_neg h0]

set_option maxRecDepth 100000 in
set_option maxHeartbeats 400000 in
theorem inv_zero (b : Nat) (w : World) (h : FieldAt w b) :
    Calls Try.prog 41 #[.pointer (some ⟨b, 0, none⟩), .int .u8 0] w fun e w' => e = .returned (.tuple #[.int .u8 0, .bool false]) ∧ w' = w := by
  go_enter Try.func41, Try.ntmps41
  go_wp2_with (go_at_call 48; refine (made_yes b _ h).mono ?_; rintro e w' ⟨rfl, rfl⟩)
  go_ret2
  exact ⟨rfl, rfl⟩

set_option maxRecDepth 100000 in
set_option maxHeartbeats 400000 in
theorem inv_ne (b a : Nat) (w : World) (h : FieldAt w b) (ha : a < 256) (ha0 : a ≠ 0) :
    Calls Try.prog 41 #[.pointer (some ⟨b, 0, none⟩), .int .u8 a] w fun e w' => e = .returned (.tuple #[.int .u8 (Gf.inv a), .bool true]) ∧ ∃ n, w' = w.drewN n := by
  have hx := Gf.lg_lt a ha
  have c1 := h.logs a ha
  have c3 := h.powers (255 - Gf.lg a) (by omega)
  have ha' : ((a : Int) == 0) = false := by simp; omega
  have HI : Hid (Gf.inv a = Gf.pw (255 - Gf.lg a)) := by show Gf.inv a = _; unfold Gf.inv; rw [if_neg ha0]
  rw [HI.out]
  clear HI
  generalize Gf.lg a = x at *
  generalize Gf.pw (255 - x) = z at *
  obtain ⟨y, hy⟩ : ∃ y, y = 255 - x := ⟨_, rfl⟩
  rw [← hy] at c3
  have hxy : (255 : Int) - (x : Int) = (y : Int) := by omega
  have hy2 : y ≤ 255 := by omega
  clear ha0 hy
  have ha2 : (a : Int) < 256 := by omega
  go_enter Try.func41, Try.ntmps41
  go_wp2_with (go_at_call 48; refine (made_yes b _ h).mono ?_; rintro e w' ⟨rfl, rfl⟩)
  go_quiet (fail)
  go_wp2
  go_ret2
  exact ⟨rfl, nq, rfl⟩

theorem exp_index (n : Int) : 1 ≤ n.tmod 255 + 255 ∧ n.tmod 255 + 255 ≤ 509 := by
  have h1 := Int.lt_tmod_of_pos n (show (0 : Int) < 255 by decide)
  have h2 := Int.tmod_lt_of_pos n (show (0 : Int) < 255 by decide)
  omega
theorem exp_eq (n : Int) : Gf.pw (n.tmod 255 + 255).toNat = Gf.pw (n % 255).toNat := by
  refine Gf.pw_congr _ _ ?_
  have := exp_index n
  have h3 := Int.mul_tdiv_add_tmod n 255
  omega

end Go.Proofs.Ythlidbenhlidjaa

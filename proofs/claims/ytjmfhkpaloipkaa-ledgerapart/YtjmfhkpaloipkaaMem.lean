/-
  Memory without any package of the program: bytes, rows of bytes, what stays as it was, strings of bytes, lists of rows of the call's own.
-/
import Derived.Test.YtjmfhkpaloipkaaRows
import Derived.WalkKit
import Derived.WalkSpells
import Derived.WalkLawsBesides
import Derived.Deep.QuietTactic
import Derived.BigQuiet
import Derived.BigRegion
import Derived.Laws.BitsAllLaws
import Derived.Deep.OwnRows
import Derived.Deep.RegionWith
import Derived.Laws.BytesArg
import Derived.OpenShut
import Derived.Lib.AppendZeros
import Derived.Lib.SliceRun
import Derived.Deep.MidRow
import Derived.Maps.AppendAt
namespace Go.Proofs.Ytjmfhkpaloipkaa
open Go.RowKit Go.Deep

theorem ret_int {k : IntKind} {a b : Int} (h : a = b) : Ending.returned (.int k a) = .returned (.int k b) := by rw [h]
/-- The slice's address a leads to n bytes: the i-th is x i. -/
structure BytesAt (w : World) (a : Option Addr) (n : Nat) (x : Nat → Nat) : Prop where
  cells : 0 < n → ∃ b o, a = some ⟨b, o, none⟩ ∧ ∀ i, i < n → w.cell? ⟨b, o + i, none⟩ = some (.int .u8 (x i))
  lt : ∀ i, i < n → x i < 256
theorem Try.infoByte : (Try.prog.info? 5).map (fun i => (i.zero, i.size, i.bytes)) = some (some (.int .u8 0), 1, 1) := by kernel_rfl
theorem cell_lt {w : World} {b o : Nat} {v : Value} (h : w.cell? ⟨b, o, none⟩ = some v) : b < w.heap.size := by
  by_cases g : b < w.heap.size
  · exact g
  · exfalso; simp [World.cell?, g] at h
theorem below_drews {B : Nat} {w : World} (n : Nat) : Below B w (w.drewN n) := ⟨rfl, rfl, rfl, Nat.le_refl _, fun _ _ => rfl⟩
/-- w' is w behind some draws: nothing in it has turned. -/
def Same (w w' : World) : Prop := ∃ n, w' = w.drewN n
theorem Same.refl (w : World) : Same w w := ⟨0, rfl⟩
theorem Same.trans {a b c : World} (h : Same a b) (k : Same b c) : Same a c := by
  obtain ⟨n, rfl⟩ := h
  obtain ⟨m, rfl⟩ := k
  exact ⟨n + m, by rw [World.drewN_drewN]⟩
theorem Same.below {w w' : World} (h : Same w w') (B : Nat) : Below B w w' := by
  obtain ⟨n, rfl⟩ := h; exact below_drews n
theorem Same.size {w w' : World} (h : Same w w') : w'.heap.size = w.heap.size := by
  obtain ⟨n, rfl⟩ := h; rfl
theorem Same.cell {w w' : World} (h : Same w w') (a : Addr) : w'.cell? a = w.cell? a := by
  obtain ⟨n, rfl⟩ := h; rfl
theorem Same.bytes {w w' : World} {a : Option Addr} {n : Nat} {x : Nat → Nat} (h : Same w w') (k : BytesAt w a n x) : BytesAt w' a n x := by
  obtain ⟨m, rfl⟩ := h; exact ⟨k.cells, k.lt⟩
theorem Same.row {w w' : World} {b t n : Nat} {f : Nat → Value} (h : Same w w') (k : w.rowIs b t n f) : w'.rowIs b t n f := by
  obtain ⟨m, rfl⟩ := h; exact k
theorem BytesAt.below {w w' : World} {a : Option Addr} {n B : Nat} {x : Nat → Nat} (h : BytesAt w a n x) (hb : Below B w w') (hB : w.heap.size ≤ B) : BytesAt w' a n x := by
  refine ⟨fun hn => ?_, h.lt⟩
  obtain ⟨b, o, e, hc⟩ := h.cells hn
  exact ⟨b, o, e, fun i hi => (hb.cell (p := ⟨b, o + i, none⟩) (Nat.lt_of_lt_of_le (cell_lt (hc i hi)) hB)).trans (hc i hi)⟩
theorem int_nat (x : Int) (h : 0 ≤ x ∧ x < 256) : ∃ n : Nat, x = n ∧ n < 256 := ⟨x.toNat, by omega, by omega⟩
theorem bytes_one (w : World) (B : Nat) (x : Int) (hx : 0 ≤ x ∧ x < 256) (h : w.cell? ⟨B, 0, none⟩ = some (.int .u8 x)) : BytesAt w (some ⟨B, 0, none⟩) 1 (fun _ => x.toNat) := by
  refine ⟨fun _ => ⟨B, 0, rfl, fun i hi => ?_⟩, fun _ _ => by omega⟩
  obtain rfl : i = 0 := by omega
  rw [h]
  show some (Value.int .u8 x) = some (Value.int .u8 (x.toNat : Int))
  rw [Int.toNat_of_nonneg hx.1]
/-- The string of n bytes, the i-th x i. -/
def strOf (n : Nat) (x : Nat → Nat) : ByteArray := strOfNums ((List.range n).map fun i => (x i : Int))
theorem strOf_congr {n : Nat} {x y : Nat → Nat} (h : ∀ i, i < n → x i = y i) : strOf n x = strOf n y := by
  unfold strOf
  congr 1
  refine List.map_congr_left fun i hi => ?_
  rw [h i (List.mem_range.1 hi)]
theorem range_getD (n : Nat) (x : Nat → Nat) (i : Nat) (h : i < n) : ((List.range n).map fun i => (x i : Int)).getD i 0 = (x i : Int) := by
  simp [List.getD, h]
/-- What the guide's shell tells of a slice of bytes that came in. -/
def Came (w : World) (a : Option Addr) (len cap : Nat) (zs : List Int) : Prop :=
  (a = none ∧ len = 0 ∧ cap = 0 ∧ zs = []) ∨
  ∃ x, a = some x ∧ len ≤ cap ∧ cap ≤ maxLen ∧ zs.length = cap ∧ (∀ i, i < zs.length → w.cell? (x.add i) = some (.int .u8 (zs.getD i 0))) ∧ ∀ n ∈ zs, (Lit.int .u8 n).wf = true
theorem addr_plain {w : World} {x : Addr} {v : Value} (h : w.cell? x = some v) : x.spot = none := by
  cases hs : x.spot with
  | none => rfl
  | some k => exfalso; obtain ⟨b, o, s⟩ := x; simp at hs; subst hs; simp [World.cell?] at h; split at h <;> simp at h
theorem Came.bytes {w : World} {a : Option Addr} {len cap : Nat} {zs : List Int} (h : Came w a len cap zs) :
    BytesAt w a len (fun i => (zs.getD i 0).toNat) ∧ len ≤ cap ∧ cap ≤ maxLen := by
  rcases h with ⟨rfl, rfl, rfl, rfl⟩ | ⟨x, rfl, h1, h2, h3, h4, h5⟩
  · exact ⟨⟨fun h => absurd h (by omega), fun i hi => absurd hi (by omega)⟩, by omega, by unfold maxLen; omega⟩
  · refine ⟨⟨fun hn => ?_, fun i hi => ?_⟩, h1, h2⟩
    · obtain ⟨b, o, s⟩ := x
      have hz := h4 0 (by omega)
      have e0 : (⟨b, o, s⟩ : Addr).add 0 = ⟨b, o, s⟩ := rfl
      rw [e0] at hz
      have hs : s = none := addr_plain hz
      subst hs
      refine ⟨b, o, rfl, fun i hi => ?_⟩
      have hc := h4 i (by omega)
      have ea : (⟨b, o, none⟩ : Addr).add i = ⟨b, o + i, none⟩ := by unfold Addr.add; split <;> simp_all
      rw [ea] at hc
      rw [hc]
      have hb := range_u8 h5 i
      simp only [List.getD] at *
      rw [Int.toNat_of_nonneg hb.1]
    · have hb := range_u8 h5 i
      simp only [List.getD] at *
      omega
theorem min4 (ts : Array TypeId) (t : TypeId) (x y z u N : Int) (w : World) (h : min (min (min x y) z) u = N) : (Builtin.min_ ts t #[.int .i64 x, .int .i64 y, .int .i64 z, .int .i64 u]).run Try.prog w = .ok (.int .i64 N) w := by
  subst h
  simp [Builtin.min_, Builtin.min2]
  repeat' split
  all_goals omega
theorem BytesAt.take {w : World} {a : Option Addr} {n m : Nat} {x : Nat → Nat} (h : BytesAt w a n x) (hm : m ≤ n) : BytesAt w a m x := by
  refine ⟨fun h0 => ?_, fun i hi => h.lt i (by omega)⟩
  obtain ⟨b, o, e, hc⟩ := h.cells (by omega)
  exact ⟨b, o, e, fun i hi => hc i (by omega)⟩
/-- The first k numbers of x, as cells. -/
def cellsAt (x : Nat → Nat) (o k : Nat) : List Value := (List.range k).map fun i => .int .u8 (x (o + i))
theorem cellsAt_len (x : Nat → Nat) (o k : Nat) : (cellsAt x o k).length = k := by simp [cellsAt]
theorem cellsAt_get (x : Nat → Nat) (o k j : Nat) (v : Value) (h : (cellsAt x o k)[j]? = some v) : j < k ∧ v = .int .u8 (x (o + j)) := by
  have hj : j < k := by have := (List.getElem?_eq_some_iff.1 h).1; rwa [cellsAt_len] at this
  refine ⟨hj, ?_⟩
  simp [cellsAt, hj] at h
  exact h.symm
theorem cellsAt_one (x : Nat → Nat) (o k : Nat) : ∀ u ∈ cellsAt x o k, u.oneCell' = true := by
  intro u hu
  obtain ⟨i, _, rfl⟩ := List.mem_map.1 hu
  rfl
/-- A row of the call's own, that is not nil, read as bytes. -/
theorem own_at {w : World} {base e : Nat} {v : Value} {n : Nat} {x : Nat → Nat} (h : w.ownsRow base e 1 v n (cellsAt x 0 n)) (hv : v ≠ .slice none 0 0) (hx : ∀ i, i < n → x i < 256) :
    ∃ g c, v = .slice (some ⟨g, 0, none⟩) n c ∧ base ≤ g ∧ n ≤ c ∧ BytesAt w (some ⟨g, 0, none⟩) n x ∧ g < w.heap.size := by
  obtain ⟨h1, h2⟩ := h
  rcases h2 with ⟨rfl, rfl⟩ | ⟨g, cap, cur, rfl, hb, hh, hle, hm, hs, ht⟩
  · exact absurd rfl hv
  · refine ⟨g, cap, rfl, hb, hle, ⟨fun _ => ⟨g, 0, rfl, fun i hi => ?_⟩, hx⟩, ?_⟩
    · have e : cur.toList[i]? = some (.int .u8 (x i)) := by
        have : (cur.toList.take (n * 1))[i]? = cur.toList[i]? := by rw [List.getElem?_take_of_lt (by omega)]
        rw [← this, ht]
        simp [cellsAt, hi]
      simp [World.cell?, hh]
      simpa using e
    · have := (Array.getElem?_eq_some_iff.1 hh).1
      exact this
/-- A new row of n bytes, the i-th x i, was made and answered. -/
def NewRow (w : World) (n : Nat) (x : Nat → Nat) (e : Ending) (w' : World) : Prop :=
  ∃ g c, e = .returned (.slice (some ⟨g, 0, none⟩) n c) ∧ w.heap.size ≤ g ∧ n ≤ c ∧ BytesAt w' (some ⟨g, 0, none⟩) n x ∧ Below w.heap.size w w'
/-- Two rows, one behind the other. -/
def cat (x y : Nat → Nat) (n : Nat) (i : Nat) : Nat := if i < n then x i else y (i - n)
theorem cat_cells (x y : Nat → Nat) (n m : Nat) : cellsAt x 0 n ++ cellsAt y 0 m = cellsAt (cat x y n) 0 (n + m) := by
  refine List.ext_getElem? fun i => ?_
  by_cases h : i < n
  · rw [List.getElem?_append_left (by rw [cellsAt_len]; exact h)]
    simp [cellsAt, h, show i < n + m by omega, cat]
  · rw [List.getElem?_append_right (by rw [cellsAt_len]; omega), cellsAt_len]
    by_cases g : i < n + m
    · simp [cellsAt, g, show i - n < m by omega, cat, h]
    · simp [cellsAt, g, show ¬ i - n < m by omega]
theorem bytes_some {w : World} {a : Option Addr} {n : Nat} {x : Nat → Nat} (h : BytesAt w a n x) (h0 : 0 < n) : ∃ b o, a = some ⟨b, o, none⟩ := by
  obtain ⟨b, o, e, -⟩ := h.cells h0
  exact ⟨b, o, e⟩
theorem bytes_cell {w : World} {b o n : Nat} {x : Nat → Nat} (h : BytesAt w (some ⟨b, o, none⟩) n x) (i : Nat) (hi : i < n) : w.cell? ⟨b, o + i, none⟩ = some (.int .u8 (x i)) := by
  obtain ⟨b', o', e, hc⟩ := h.cells (by omega)
  cases e
  exact hc i hi
theorem cat_lt {x y : Nat → Nat} {n m : Nat} (hx : ∀ i, i < n → x i < 256) (hy : ∀ i, i < m → y i < 256) : ∀ i, i < n + m → cat x y n i < 256 := by
  intro i hi
  unfold cat
  split
  · exact hx i (by omega)
  · exact hy _ (by omega)
theorem own_ge {w : World} {base e s : Nat} {v : Value} {n : Nat} {xs : List Value} (h : w.ownsRow base e s v n xs) : ∀ k, v.ownBlock = some k → base ≤ k := by
  intro k hk
  rcases h.2 with ⟨rfl, -⟩ | ⟨g, cap, cur, rfl, hb, -⟩
  · simp [Value.ownBlock] at hk
  · simp [Value.ownBlock] at hk; omega
/-- All that lay in w lies in w', but for block R. -/
structure Kept (R : Nat) (w w' : World) : Prop where
  os : w'.os = w.os
  tape : w'.tape = w.tape
  output : w'.output = w.output
  size : w.heap.size ≤ w'.heap.size
  block : ∀ k, k < w.heap.size → k ≠ R → w'.heap[k]? = w.heap[k]?
theorem Kept.refl (R : Nat) (w : World) : Kept R w w := ⟨rfl, rfl, rfl, Nat.le_refl _, fun _ _ _ => rfl⟩
theorem Kept.trans {R : Nat} {a b c : World} (h : Kept R a b) (k : Kept R b c) : Kept R a c :=
  ⟨k.os.trans h.os, k.tape.trans h.tape, k.output.trans h.output, Nat.le_trans h.size k.size, fun i hi hR => (k.block i (Nat.lt_of_lt_of_le hi h.size) hR).trans (h.block i hi hR)⟩
theorem Kept.of_below {R : Nat} {w w' : World} (h : Below w.heap.size w w') : Kept R w w' := ⟨h.os, h.tape, h.output, h.size, fun k hk _ => h.block k hk⟩
theorem Kept.of_same {R : Nat} {w w' : World} (h : Same w w') : Kept R w w' := Kept.of_below (h.below _)
theorem Kept.below {R B : Nat} {w w' : World} (h : Kept R w w') (hR : B ≤ R) (hB : B ≤ w.heap.size) : Below B w w' :=
  ⟨h.os, h.tape, h.output, h.size, fun k hk => h.block k (by omega) (by omega)⟩
theorem Kept.set {R : Nat} (w : World) (i : Nat) (v : Value) : Kept R w (w.setCell ⟨R, i, none⟩ v) :=
  ⟨rfl, rfl, rfl, by simp [World.setCell], fun k _ hR => Below.heap_setCell w _ v k hR⟩
theorem Kept.cell {R b o : Nat} {w w' : World} {v : Value} (h : Kept R w w') (hc : w.cell? ⟨b, o, none⟩ = some v) (hR : b ≠ R) : w'.cell? ⟨b, o, none⟩ = some v := by
  rw [World.cell?_of_block (w := w) (h.block b (cell_lt hc) hR), hc]
/-- No number lies in block R. -/
def Apart (w : World) (R : Nat) : Prop := ∀ b o κ z, w.cell? ⟨b, o, none⟩ = some (.int κ z) → b ≠ R
theorem BytesAt.kept {w w' : World} {a : Option Addr} {n R : Nat} {x : Nat → Nat} (h : BytesAt w a n x) (hk : Kept R w w') (ha : Apart w R) : BytesAt w' a n x := by
  refine ⟨fun hn => ?_, h.lt⟩
  obtain ⟨b, o, e, hc⟩ := h.cells hn
  exact ⟨b, o, e, fun i hi => hk.cell (hc i hi) (ha _ _ _ _ (hc i hi))⟩
theorem BytesAt.grew {w w' : World} {a : Option Addr} {n : Nat} {x : Nat → Nat} (h : BytesAt w a n x) (hb : Below w.heap.size w w') : BytesAt w' a n x := h.below hb (Nat.le_refl _)
theorem BytesAt.setOther {w : World} {b n L i : Nat} {x : Nat → Nat} {v : Value} (h : BytesAt w (some ⟨b, 0, none⟩) n x) (hne : b ≠ L) : BytesAt (w.setCell ⟨L, i, none⟩ v) (some ⟨b, 0, none⟩) n x := by
  refine ⟨fun hn => ?_, h.lt⟩
  obtain ⟨b', o, e, hc⟩ := h.cells hn
  refine ⟨b', o, e, fun j hj => ?_⟩
  cases e
  rw [World.cell?_setCell_other _ _ _ _ (fun e => hne (Addr.mk.inj e).1.symm)]
  exact hc j hj
def listAt (l : List Nat) (i : Nat) : Nat := l.getD i 0
theorem BytesAt.congr {w : World} {a : Option Addr} {n : Nat} {x y : Nat → Nat} (h : BytesAt w a n x) (e : ∀ i, i < n → x i = y i) : BytesAt w a n y := by
  refine ⟨fun hn => ?_, fun i hi => by rw [← e i hi]; exact h.lt i hi⟩
  obtain ⟨b, o, ea, hc⟩ := h.cells hn
  exact ⟨b, o, ea, fun i hi => by rw [← e i hi]; exact hc i hi⟩
/-- A builtin append whose run is known, as one step of a region that draws. -/
theorem step_append_run {P : Program} {ops : Array Oper} {o : Oper} {a : Act} {w : World} {K : Act → World → Prop} {Q : Exit → Act → World → Prop} {E : Prop}
    (hg : o.guard = none) (s x : Operand) (t : TypeId) (hop : o.op = Op.call { callee := Callee.builtin Builtin.append, args := #[s, x], argTypes := #[t, t] })
    (vs vx : Value) (hs : a.eval s = vs) (hx : a.eval x = vx) (v' : Value) (w' : World) (hr : (Builtin.append_ #[t, t] o.type #[vs, vx]).run P w = .ok v' w') (hK : K (a.put o.dst v') w') :
    if Region.wanted o (yielded ops a.tmps) = true then Oper.wp P o a w K Q else E := by
  have hw : Region.wanted o (yielded ops a.tmps) = true := by simp [Region.wanted, hg]
  rw [if_pos hw]
  unfold Oper.wp
  simp [execOp, hop, resolve, invoke, builtin, hs, hx, hr, Result.andThen]
  exact hK
theorem nil_bytes (w : World) (x : Nat → Nat) : BytesAt w none 0 x := ⟨fun h => absurd h (by omega), fun i hi => absurd hi (by omega)⟩
/-- Block F's own world: all that lay in w and not in F stays. -/
structure KeptF (F : Nat → Prop) (w w' : World) : Prop where
  os : w'.os = w.os
  tape : w'.tape = w.tape
  output : w'.output = w.output
  size : w.heap.size ≤ w'.heap.size
  block : ∀ k, k < w.heap.size → ¬ F k → w'.heap[k]? = w.heap[k]?
theorem KeptF.refl (F : Nat → Prop) (w : World) : KeptF F w w := ⟨rfl, rfl, rfl, Nat.le_refl _, fun _ _ _ => rfl⟩
theorem KeptF.of_kept {F : Nat → Prop} {R : Nat} {w w' : World} (h : Kept R w w') (hR : F R) : KeptF F w w' :=
  ⟨h.os, h.tape, h.output, h.size, fun k hk hF => h.block k hk (fun e => hF (e ▸ hR))⟩
theorem KeptF.of_same {F : Nat → Prop} {w w' : World} (h : Same w w') : KeptF F w w' := by
  obtain ⟨n, rfl⟩ := h
  exact ⟨rfl, rfl, rfl, Nat.le_refl _, fun _ _ _ => rfl⟩
theorem KeptF.of_below {F : Nat → Prop} {w w' : World} (h : Below w.heap.size w w') : KeptF F w w' := ⟨h.os, h.tape, h.output, h.size, fun k hk _ => h.block k hk⟩
theorem KeptF.trans {F : Nat → Prop} {a b c : World} (h : KeptF F a b) (k : KeptF F b c) : KeptF F a c :=
  ⟨k.os.trans h.os, k.tape.trans h.tape, k.output.trans h.output, Nat.le_trans h.size k.size, fun i hi hF => (k.block i (Nat.lt_of_lt_of_le hi h.size) hF).trans (h.block i hi hF)⟩
theorem KeptF.of_grown {F : Nat → Prop} {w w' : World} {row : Option Nat} (h : w.grownBy w' row) (hF : ∀ R, row = some R → F R) : KeptF F w w' :=
  ⟨h.os, h.tape, h.output, h.size, fun k hk hn => h.block k hk (fun e => hn (hF k e.symm))⟩
end Go.Proofs.Ytjmfhkpaloipkaa

/-
  Several texts, one behind the other.
-/
import Derived.Test.YthlidbenhlidjaaJ1
import Derived.Test.YthlidbenhlidjaaJ9
import Derived.Test.YthlidbenhlidjaaJ10
import Derived.Test.YthlidbenhlidjaaRdc
import Derived.Test.YthlidbenhlidjaaJ2
import Derived.Test.YthlidbenhlidjaaJ7
import Derived.Test.YthlidbenhlidjaaJ4
import Derived.Test.YthlidbenhlidjaaJ3
/-
  What the statements on bytes that are handed in lean on: bytes lent with others behind them, and whether both are whole.
-/
namespace Go.Proofs.Ythlidbenhlidjaa
open Go.RowKit Go.Deep

def behind : ByteArray := ⟨#[90, 165, 15, 240, 51]⟩
def behindAt (i : Nat) : Nat := ([90, 165, 15, 240, 51] : List Nat).getD i 0
/-- The bytes lent: n of x, and those behind them. -/
def lentOf (x : Nat → Nat) (n i : Nat) : Nat := if i < n then x i else behindAt (i - n)

theorem behindAt_lt (i : Nat) : behindAt i < 256 := by
  by_cases h : i < 5
  · exact (by decide : ∀ i, i < 5 → behindAt i < 256) i h
  · unfold behindAt; rw [List.getD_eq_getElem?_getD, List.getElem?_eq_none (by simp; omega)]; decide

/-- The room behind k rounds of the first loop. -/
def roomA (x : Nat → Nat) (k i : Nat) : Value := .int .u8 ((if i < k then x i else 0 : Nat) : Int)
/-- .. and behind j rounds of the second. -/
def roomB (x : Nat → Nat) (n j i : Nat) : Value := .int .u8 ((if i < n then x i else if i < n + j then behindAt (i - n) else 0 : Nat) : Int)

theorem roomA_step {w : World} {B t K k : Nat} {x : Nat → Nat} (h : w.rowIs B t K (roomA x k)) : (w.setCell ⟨B, k, none⟩ (.int .u8 (x k))).rowIs B t K (roomA x (k + 1)) := by
  refine (h.set k _).congr fun i _ => ?_
  unfold roomA
  by_cases e : i = k
  · subst e; simp
  · by_cases g : i < k
    · simp [e, g, show i < k + 1 by omega]
    · simp [e, g, show ¬ i < k + 1 by omega]
theorem roomA_end {w : World} {B t K n : Nat} {x : Nat → Nat} (h : w.rowIs B t K (roomA x n)) : w.rowIs B t K (roomB x n 0) := by
  refine h.congr fun i _ => ?_
  unfold roomA roomB
  by_cases g : i < n
  · simp [g]
  · simp [g]
theorem roomB_step {w : World} {B t K n j : Nat} {x : Nat → Nat} (h : w.rowIs B t K (roomB x n j)) : (w.setCell ⟨B, n + j, none⟩ (.int .u8 (behindAt j))).rowIs B t K (roomB x n (j + 1)) := by
  refine (h.set (n + j) _).congr fun i _ => ?_
  unfold roomB
  by_cases e : i = n + j
  · subst e; simp [show ¬ n + j < n by omega]
  · by_cases g : i < n
    · simp [e, g]
    · by_cases g2 : i < n + j
      · simp [e, g, g2, show i < n + (j + 1) by omega]
      · simp [e, g, g2, show ¬ i < n + (j + 1) by omega]
set_option maxRecDepth 100000 in
theorem behind_get0 (w : World) : (Instr.index 9 (.string { data := #[90, 165, 15, 240, 51] }) (.int .i64 0)).run Try.prog w = .ok (.int .u8 90) w := by kernel_rfl
set_option maxRecDepth 100000 in
theorem behind_get1 (w : World) : (Instr.index 9 (.string { data := #[90, 165, 15, 240, 51] }) (.int .i64 1)).run Try.prog w = .ok (.int .u8 165) w := by kernel_rfl
set_option maxRecDepth 100000 in
theorem behind_get2 (w : World) : (Instr.index 9 (.string { data := #[90, 165, 15, 240, 51] }) (.int .i64 2)).run Try.prog w = .ok (.int .u8 15) w := by kernel_rfl
set_option maxRecDepth 100000 in
theorem behind_get3 (w : World) : (Instr.index 9 (.string { data := #[90, 165, 15, 240, 51] }) (.int .i64 3)).run Try.prog w = .ok (.int .u8 240) w := by kernel_rfl
set_option maxRecDepth 100000 in
theorem behind_get4 (w : World) : (Instr.index 9 (.string { data := #[90, 165, 15, 240, 51] }) (.int .i64 4)).run Try.prog w = .ok (.int .u8 51) w := by kernel_rfl
theorem behind_get (j : Nat) (h : j < 5) : ∀ w : World, (Instr.index 9 (.string { data := #[90, 165, 15, 240, 51] }) (.int .i64 (j : Int))).run Try.prog w = .ok (.int .u8 (behindAt j)) w := by
  intro w
  match j, h with
  | 0, _ => exact behind_get0 w
  | 1, _ => exact behind_get1 w
  | 2, _ => exact behind_get2 w
  | 3, _ => exact behind_get3 w
  | 4, _ => exact behind_get4 w

set_option maxRecDepth 100000 in
set_option maxHeartbeats 400000 in
theorem lent_any (a : Option Addr) (n c : Nat) (x : Nat → Nat) (w : World) (hx : BytesAt w a n x) (hn : n ≤ 140737488351232) :
    Calls Try.prog 7 #[.slice a n c] w fun e w' => e = .returned (.slice (some ⟨w.heap.size, 0, none⟩) n (n + 5)) ∧ BytesAt w' (some ⟨w.heap.size, 0, none⟩) (n + 5) (lentOf x n) ∧ Below w.heap.size w w' ∧ w'.heap.size = w.heap.size + 1 := by
  have hmk := run_make_row' (P := Try.prog) 26 5 (.int .u8 0) 1 Try.underlying26 Try.infoByte rfl .i64 .i64 (n + 5) (by omega) (by omega)
  rw [show ((n + 5 : Nat) : Int) = (n : Int) + 5 by omega] at hmk
  go_enter Try.func7, Try.ntmps7
  go_wp2_with fail
  clear hmk
  go_loopw [4] (fun i wr => ∃ k : Nat, k ≤ n ∧ i = .int .i64 k ∧ wr.rowIs w.heap.size 5 (n + 5) (roomA x k) ∧ Below w.heap.size w wr ∧ wr.heap.size = w.heap.size + 1) (fun i _ => n - (intOf i).toNat)
  case atStart => exact ⟨0, Nat.zero_le _, rfl, World.rowIs_made w _ (n + 5) _, (Below.refl _ _).alloc (Nat.le_refl _) _, by simp⟩
  case round =>
    obtain ⟨k, hk, rfl, hrow, hb, hs⟩ := hrel
    by_cases hlt : k < n
    · obtain ⟨b1, o1, rfl, cx⟩ := hx.cells (by omega)
      have c1 : wr.cell? ⟨b1, o1 + k, none⟩ = some (.int .u8 (x k)) := (hb.cell (p := ⟨b1, o1 + k, none⟩) (cell_lt (cx k hlt))).trans (cx k hlt)
      obtain ⟨v3, c3⟩ : ∃ v, wr.cell? ⟨w.heap.size, k, none⟩ = some v := ⟨_, hrow.cell (by omega)⟩
      have f3 := hrow.frozen k
      have i1 : (k : Int) < (n : Int) := by omega
      clear cx hx
      go_wp2
      go_roundw
      case rel => exact ⟨k + 1, by omega, by go_num, roomA_step hrow, hb.setCell (Nat.le_refl _) _, by simpa [World.setCell] using hs⟩
      case measure => simp [intOf]; omega
    · have hke : k = n := by omega
      subst hke
      have hrow := roomA_end hrow
      clear hlt hk
      go_wp2_with fail
      go_loopw [5] (fun i wr => ∃ j : Nat, j ≤ 5 ∧ i = .int .i64 j ∧ wr.rowIs w.heap.size 5 (k + 5) (roomB x k j) ∧ Below w.heap.size w wr ∧ wr.heap.size = w.heap.size + 1) (fun i _ => 5 - (intOf i).toNat)
      case atStart => exact ⟨0, Nat.zero_le _, rfl, hrow, hb, hs⟩
      case round =>
        clear hrow hb hs
        obtain ⟨j, hj, rfl, hrow, hb, hs⟩ := hrel
        by_cases hlt : j < 5
        · obtain ⟨v3, c3⟩ : ∃ v, wr.cell? ⟨w.heap.size, k + j, none⟩ = some v := ⟨_, hrow.cell (by omega)⟩
          have f3 := hrow.frozen (k + j)
          have hbg := behind_get j hlt
          have i1 : (j : Int) < 5 := by omega
          go_wp2
          go_roundw
          case rel => exact ⟨j + 1, by omega, by go_num, roomB_step hrow, hb.setCell (Nat.le_refl _) _, by simpa [World.setCell] using hs⟩
          case measure => simp [intOf]; omega
        · have hje : j = 5 := by omega
          subst hje
          have hsl := slice_to (some ⟨w.heap.size, 0, none⟩) (k + 5) (k + 5) k wr (by omega)
          clear hlt hj
          go_wp2
          go_ret
          refine ⟨rfl, ⟨fun _ => ⟨_, 0, rfl, fun i hi => ?_⟩, fun i hi => ?_⟩, hb, hs⟩
          · rw [Nat.zero_add, hrow.cell hi]
            unfold roomB lentOf
            by_cases g : i < k
            · simp [g]
            · simp [g, hi]
          · unfold lentOf
            by_cases g : i < k
            · rw [if_pos g]; exact hx.lt i g
            · rw [if_neg g]; exact behindAt_lt _

set_option maxRecDepth 100000 in
theorem slice_mid (b n c lo hi : Nat) (w : World) (h1 : lo ≤ hi) (h2 : hi ≤ c) : (Instr.slice 26 (.slice (some ⟨b, 0, none⟩) n c) (some (.int .i64 (lo : Int))) (some (.int .i64 (hi : Int))) none).run Try.prog w = .ok (.slice (some (if c = lo then ⟨b, 0, none⟩ else ⟨b, lo, none⟩)) (hi - lo) (c - lo)) w := by
  have e := run_slice_lh (P := Try.prog) w 26 (some ⟨b, 0, none⟩) n c Try.underlying26 .i64 .i64 (lo : Int) (hi : Int) (by omega) (by omega) (by omega)
  rw [e]
  have hs : (sizeOf (Try.prog.elem 26)).run Try.prog w = .ok 1 w := by kernel_rfl
  rw [hs]
  have hz : (⟨b, 0, none⟩ : Addr).add lo = ⟨b, lo, none⟩ := by unfold Addr.add; split <;> simp_all
  simp only [Result.andThen, sliced, Int.toNat_natCast, Nat.mul_one, Option.map_some, hz]
  split <;> rfl

theorem behind_str (x : Nat → Nat) (n : Nat) : strOf 5 (fun i => lentOf x n (n + i)) = ⟨#[90, 165, 15, 240, 51]⟩ := by
  rw [strOf_congr (y := behindAt) (fun i _ => by unfold lentOf; rw [if_neg (by omega), Nat.add_sub_cancel_left])]
  decide +kernel

set_option maxRecDepth 100000 in
set_option maxHeartbeats 400000 in
theorem whole_any (a : Option Addr) (b n c : Nat) (x : Nat → Nat) (w : World) (hl : BytesAt w (some ⟨b, 0, none⟩) (n + 5) (lentOf x n)) (hx : BytesAt w a n x) (hn : n ≤ 140737488351232) :
    Calls Try.prog 11 #[.slice (some ⟨b, 0, none⟩) n (n + 5), .slice a n c] w fun e w' => e = .returned (.bool true) ∧ w' = w := by
  have e1 := conv_bytes _ n (n + 5) _ w (hl.take (m := n) (by omega))
  rw [strOf_congr (y := x) (fun i hi => by unfold lentOf; rw [if_pos hi])] at e1
  have e2 := conv_bytes a n c x w hx
  have e3 := slice_mid b n (n + 5) n (n + 5) w (by omega) (by omega)
  rw [if_neg (by omega), show ((n + 5 : Nat) : Int) = (n : Int) + 5 by omega, Nat.add_sub_cancel_left] at e3
  have hm : BytesAt w (some ⟨b, n, none⟩) 5 (fun i => lentOf x n (n + i)) := by
    refine ⟨fun _ => ⟨b, n, rfl, fun i hi => ?_⟩, fun i hi => hl.lt _ (by omega)⟩
    obtain ⟨b', o', e, hc⟩ := hl.cells (by omega)
    simp at e
    obtain ⟨rfl, rfl⟩ := e
    have := hc (n + i) (by omega)
    rwa [Nat.zero_add] at this
  have e4 := conv_bytes _ 5 5 _ w hm
  rw [behind_str] at e4
  clear hl hx hm
  go_enter Try.func11, Try.ntmps11
  go_wp2
  go_ret
  exact ⟨rfl, rfl⟩
end Go.Proofs.Ythlidbenhlidjaa

/-
  The document's Basis in memory: its rows and data as they came; copies of them that grow by one; two lists of texts held against one another.
-/
namespace Go.Proofs.Ythlidbenhlidjaa
open Go.RowKit Go.Deep

/-- append of nil onto a row without elements. -/
theorem append_none (t e ty : TypeId) (i : TypeInfo) (ht : Try.prog.underlying t = some (.slice e)) (hi : Try.prog.info? e = some i) (a : Addr) (W : World) :
    (Builtin.append_ #[t, t] ty #[.slice (some a) 0 0, .slice none 0 0]).run Try.prog W = .ok (.slice (some a) 0 0) W := by
  simp [Builtin.append_, run_underlying ht, sizeOf, typeInfo, hi, Builtin.lenOf, Builtin.firstCells, loadCells, loadCellsFrom, storeCells]

/-- A row without elements or room is one of the call's own. -/
theorem empty_own (w : World) (base n : Nat) (x : Nat → Nat → Nat) (hb : base ≤ w.heap.size) : Own (w.alloc (.cells #[] 26)) base (.slice (some ⟨w.heap.size, 0, none⟩) 0 0) 0 n x := by
  refine ⟨[], World.ownsRow_made w #[] 0 hb (Nat.zero_le _) rfl, fun _ g e => ?_, fun i hi => absurd hi (Nat.not_lt_zero _)⟩
  have e : g = w.heap.size := by simp [Value.ownBlock] at e; exact e.symm
  subst e
  rw [World.cell?_alloc_at _ _ _ _ rfl]
  rfl

/-- append([][]byte{}, l...): the same rows, in a row of the call's own. -/
theorem rows_run {w0 W : World} {va : Value} {d n : Nat} {x : Nat → Nat → Nat} (ty : TypeId) (h : Own W 0 va d n x) (h0 : d = 0 → va = .slice none 0 0) (hn : 0 < n) (hd : d ≤ 1000) (hb : Below w0.heap.size w0 W) :
    ∃ v W', (Builtin.append_ #[77, 77] ty #[.slice (some ⟨W.heap.size, 0, none⟩) 0 0, va]).run Try.prog (W.alloc (.cells #[] 26)) = .ok v W' ∧ Own W' w0.heap.size v d n x ∧ Below W.heap.size W W' ∧ ∀ g, v.ownBlock = some g → W.heap.size ≤ g := by
  obtain ⟨i0, hi, hz0, hz1, hz2⟩ := info_parts Try.infoRow
  have hE := empty_own W w0.heap.size n x hb.size
  have b1 : Below W.heap.size W (W.alloc (.cells #[] 26)) := (Below.refl _ _).alloc (Nat.le_refl _) _
  by_cases hd0 : d = 0
  · subst hd0
    rw [h0 rfl]
    exact ⟨_, _, append_none _ _ ty i0 Try.underlying77 hi _ _, hE, b1, fun g e => by simp [Value.ownBlock] at e; omega⟩
  · have h1 := h.grew b1
    obtain ⟨xs, ho, -, hx⟩ := h1
    obtain ⟨es, eo, -, -⟩ := hE
    rcases ho.2 with ⟨-, e⟩ | ⟨g, cap, cur, rfl, -, hg, hle, hm, hs, ht⟩
    · exact absurd e hd0
    · have hl := ho.1
      rw [Nat.mul_one] at hl
      have hes : es = [] := List.eq_nil_of_length_eq_zero (by have := eo.1; omega)
      subst hes
      obtain ⟨v, W', hr, hown, hgr, -, hat⟩ := run_append_own_at (P := Try.prog) (W.alloc (.cells #[] 26)) w0.heap.size 77 ty 26 i0 (.slice none 0 0) 1 24 Try.underlying77 hi hz0 hz1 hz2 rfl (by decide) _ 0 [] eo ⟨g, 0, none⟩ d cap xs (by rw [hl, Nat.mul_one])
        (fun j u hj => ho.cells rfl j u hj) (fun u hu => by
          obtain ⟨j, hj, e⟩ := List.getElem_of_mem hu
          obtain ⟨b, c, h1, -⟩ := hx j (by omega)
          rw [List.getElem?_eq_getElem hj, e] at h1
          cases h1
          rfl) (by unfold maxLen; omega) (by omega) (by have := hb.size; simp; omega)
      rw [Nat.zero_add, List.nil_append] at hown
      have nb : ∀ b y, BytesAt (W.alloc (.cells #[] 26)) (some ⟨b, 0, none⟩) n y → b ≠ W.heap.size := by
        rintro b y hB rfl
        have h3 := bytes_cell hB 0 hn
        rw [Nat.add_zero, World.cell?_alloc_at _ _ _ _ rfl] at h3
        cases h3
      refine ⟨v, W', hr, ⟨xs, hown, fun e => absurd e hd0, fun i hi => ?_⟩, ?_, ?_⟩
      · obtain ⟨b, c, h1, h2⟩ := hx i hi
        exact ⟨b, c, h1, h2.grown hgr (by simp [Value.ownBlock]; exact fun e => nb b _ h2 e.symm)⟩
      · exact b1.grown hgr (by simp) (fun k e => by simp [Value.ownBlock] at e; omega)
      · intro g' e
        rcases hat with e2 | e2
        · rw [e2] at e; simp [Value.ownBlock] at e; omega
        · rw [e2] at e; simp at e; omega

/-- The block D holds the document's Basis: d rows and their data, as they came: V has both, one behind the other. They lie neither there nor in block R. -/
structure RefAt (w : World) (D R k size d : Nat) (V : Nat → Nat → Nat) : Prop where
  kc : w.cell? ⟨D, 0, none⟩ = some (.int .i64 (k : Int))
  sc : w.cell? ⟨D, 1, none⟩ = some (.int .i64 (size : Int))
  rows : ∃ va, w.cell? ⟨D, 2, none⟩ = some va ∧ Own w 0 va d k V ∧ (d = 0 → va = .slice none 0 0) ∧ va.ownBlock ≠ some D ∧ va.ownBlock ≠ some R
  data : ∃ vb, w.cell? ⟨D, 3, none⟩ = some vb ∧ Own w 0 vb d size (fun i t => V i (k + t)) ∧ (d = 0 → vb = .slice none 0 0) ∧ vb.ownBlock ≠ some D ∧ vb.ownBlock ≠ some R
  thaw : ∀ o, w.frozen? ⟨D, o, none⟩ = false

theorem Own.kept {w w' : World} {base : Nat} {v : Value} {j n R : Nat} {x : Nat → Nat → Nat} (h : Own w base v j n x) (hk : Kept R w w') (hv : v.ownBlock ≠ some R) (hb : ∀ b m y, 0 < m → BytesAt w (some ⟨b, 0, none⟩) m y → b ≠ R) (hn : 0 < n) : Own w' base v j n x := by
  obtain ⟨xs, ho, h0, hx⟩ := h
  have hg : ∀ g, v.ownBlock = some g → w'.heap[g]? = w.heap[g]? := fun g e => hk.block g (ho.lt g e).2 (fun e2 => hv (by rw [e, e2]))
  refine ⟨xs, ⟨ho.1, ?_⟩, fun hj g e => ?_, fun i hi => ?_⟩
  · rcases ho.2 with h1 | ⟨g, cap, cur, rfl, h2, h3, h4⟩
    · exact .inl h1
    · exact .inr ⟨g, cap, cur, rfl, h2, by rw [hg g rfl]; exact h3, h4⟩
  · rw [World.cell?_of_block (w := w) (hg g e)]
    exact h0 hj g e
  · obtain ⟨b, c, h1, h2⟩ := hx i hi
    refine ⟨b, c, h1, ⟨fun hn' => ?_, h2.lt⟩⟩
    obtain ⟨b', o, e, hc⟩ := h2.cells hn'
    cases e
    exact ⟨b, 0, rfl, fun i hi => hk.cell (hc i hi) (hb b n _ hn h2)⟩

theorem RefAt.grew {w w' : World} {D R k size d : Nat} {V : Nat → Nat → Nat} (h : RefAt w D R k size d V) (hb : Below w.heap.size w w') : RefAt w' D R k size d V := by
  have hl : D < w.heap.size := cell_lt h.kc
  obtain ⟨va, a1, a2, a3⟩ := h.rows
  obtain ⟨vb, b1, b2, b3⟩ := h.data
  exact ⟨(hb.cell (p := ⟨D, 0, none⟩) hl).trans h.kc, (hb.cell (p := ⟨D, 1, none⟩) hl).trans h.sc, ⟨va, (hb.cell (p := ⟨D, 2, none⟩) hl).trans a1, a2.grew hb, a3⟩, ⟨vb, (hb.cell (p := ⟨D, 3, none⟩) hl).trans b1, b2.grew hb, b3⟩, fun o => (hb.frozen (p := ⟨D, o, none⟩) hl).trans (h.thaw o)⟩
theorem Apart.bytes {w : World} {R : Nat} (ha : Apart w R) : ∀ b m y, 0 < m → BytesAt w (some ⟨b, 0, none⟩) m y → b ≠ R := by
  intro b m y hm hb
  have := bytes_cell hb 0 hm
  exact ha _ _ _ _ this
/-- It stays as it is while the program's Basis goes on. -/
theorem RefAt.kept {w w' : World} {D R k size d : Nat} {V : Nat → Nat → Nat} (h : RefAt w D R k size d V) (hk : Kept R w w') (ha : Apart w R) (k1 : 0 < k) (s1 : 0 < size) : RefAt w' D R k size d V := by
  have hD : D ≠ R := ha _ _ _ _ h.kc
  have hl : D < w.heap.size := cell_lt h.kc
  obtain ⟨va, a1, a2, a3, a4, a5⟩ := h.rows
  obtain ⟨vb, b1, b2, b3, b4, b5⟩ := h.data
  exact ⟨hk.cell h.kc hD, hk.cell h.sc hD, ⟨va, hk.cell a1 hD, a2.kept hk a5 ha.bytes k1, a3, a4, a5⟩, ⟨vb, hk.cell b1 hD, b2.kept hk b5 ha.bytes s1, b3, b4, b5⟩, fun o => (World.frozen?_of_block (a := ⟨D, o, none⟩) (hk.block D hl hD)).trans (h.thaw o)⟩

set_option maxRecDepth 100000 in
set_option maxHeartbeats 400000 in
theorem rnew_no (k size : Int) (w : World) (hno : ¬ (1 ≤ k ∧ k ≤ 32 ∧ 1 ≤ size ∧ size ≤ 64)) :
    Calls Try.prog 25 #[.int .i64 k, .int .i64 size] w fun e w' => e = .returned (.tuple #[.pointer none, .bool false]) ∧ w' = w := by
  by_cases c1 : k < 1
  · go_enter Try.func25, Try.ntmps25
    go_wp2
    go_ret2
    exact ⟨rfl, rfl⟩
  by_cases c2 : 32 < k
  · go_enter Try.func25, Try.ntmps25
    go_wp2
    go_ret2
    exact ⟨rfl, rfl⟩
  by_cases c3 : size < 1
  · go_enter Try.func25, Try.ntmps25
    go_wp2
    go_ret2
    exact ⟨rfl, rfl⟩
  have c4 : 64 < size := by omega
  go_enter Try.func25, Try.ntmps25
  go_wp2
  go_ret2
  exact ⟨rfl, rfl⟩

/-- A new Basis of the document's was answered. -/
def RNew (w : World) (R k size : Nat) (e : Ending) (w' : World) : Prop :=
  ∃ D, e = .returned (.tuple #[.pointer (some ⟨D, 0, none⟩), .bool true]) ∧ w.heap.size ≤ D ∧ RefAt w' D R k size 0 (fun _ _ => 0) ∧ Below w.heap.size w w'

theorem ref_new (w : World) (R k size : Nat) : RefAt (w.alloc (.cells #[.int .i64 (k : Int), .int .i64 (size : Int), .slice none 0 0, .slice none 0 0] 79)) w.heap.size R k size 0 (fun _ _ => 0) := by
  refine ⟨?_, ?_, ⟨.slice none 0 0, ?_, ⟨[], World.ownsRow_nil _ _ _ _, (fun _ _ e => nomatch e), fun i hi => absurd hi (Nat.not_lt_zero _)⟩, fun _ => rfl, nofun, nofun⟩, ⟨.slice none 0 0, ?_, ⟨[], World.ownsRow_nil _ _ _ _, (fun _ _ e => nomatch e), fun i hi => absurd hi (Nat.not_lt_zero _)⟩, fun _ => rfl, nofun, nofun⟩, fun o => ?_⟩
  · rw [World.cell?_alloc_at _ _ _ _ rfl]; rfl
  · rw [World.cell?_alloc_at _ _ _ _ rfl]; rfl
  · rw [World.cell?_alloc_at _ _ _ _ rfl]; rfl
  · rw [World.cell?_alloc_at _ _ _ _ rfl]; rfl
  · rw [frozen?_alloc_cells]; simp [World.frozen?]

set_option maxRecDepth 100000 in
set_option maxHeartbeats 400000 in
theorem rnew_yes (k size R : Nat) (w : World) (k1 : 1 ≤ k) (k2 : k ≤ 32) (s1 : 1 ≤ size) (s2 : size ≤ 64) :
    Calls Try.prog 25 #[.int .i64 (k : Int), .int .i64 (size : Int)] w fun e w' => RNew w R k size e w' := by
  have hbu : ∀ w, (Instr.build 79 #[(0, .int .i64 (k : Int)), (1, .int .i64 (size : Int))]).run Try.prog w = .ok (.agg #[.int .i64 (k : Int), .int .i64 (size : Int), .slice none 0 0, .slice none 0 0]) w := fun w => by kernel_rfl
  have i1 : (1 : Int) ≤ (k : Int) := by omega
  have i2 : (k : Int) ≤ 32 := by omega
  have i3 : (1 : Int) ≤ (size : Int) := by omega
  have i4 : (size : Int) ≤ 64 := by omega
  have RN : Hid (RefAt (w.alloc (.cells #[.int .i64 (k : Int), .int .i64 (size : Int), .slice none 0 0, .slice none 0 0] 79)) w.heap.size R k size 0 (fun _ _ => 0)) := ref_new w R k size
  have BB : Hid (Below w.heap.size w (w.alloc (.cells #[.int .i64 (k : Int), .int .i64 (size : Int), .slice none 0 0, .slice none 0 0] 79))) := (Below.refl _ _).alloc (Nat.le_refl _) _
  go_enter Try.func25, Try.ntmps25
  go_wp2
  go_ret2
  exact ⟨w.heap.size, rfl, Nat.le_refl _, RN.out, BB.out⟩

/-- Two lists of texts. -/
def Txts (w : World) (g m n : Nat) (x : Nat → Nat → Nat) : Prop := ∀ i, i < m → ∃ r c, w.cell? ⟨g, i, none⟩ = some (.slice r n c) ∧ BytesAt w r n (x i)
theorem Txts.same {w w' : World} {g m n : Nat} {x : Nat → Nat → Nat} (h : Txts w g m n x) (q : Same w w') : Txts w' g m n x := by
  intro i hi
  obtain ⟨r, c, h1, h2⟩ := h i hi
  exact ⟨r, c, (q.cell _).trans h1, q.bytes h2⟩
end Go.Proofs.Ythlidbenhlidjaa

/-
  The document's Basis at work: Add and Solve, all rows brought into steps anew each time.
-/
namespace Go.Proofs.Ythlidbenhlidjaa
open Go.RowKit Go.Deep

theorem Own.form {w : World} {base : Nat} {v : Value} {j n : Nat} {x : Nat → Nat → Nat} (h : Own w base v j n x) : ∃ r c, v = .slice r j c := by
  obtain ⟨xs, ho, -, -⟩ := h
  rcases ho.2 with ⟨rfl, rfl⟩ | ⟨g, cap, cur, rfl, -⟩
  · exact ⟨none, 0, rfl⟩
  · exact ⟨_, cap, rfl⟩
theorem Own.congr {w : World} {base : Nat} {v : Value} {j n : Nat} {x y : Nat → Nat → Nat} (h : Own w base v j n x) (e : ∀ i, i < j → x i = y i) : Own w base v j n y := by
  obtain ⟨xs, ho, h0, hx⟩ := h
  exact ⟨xs, ho, h0, fun i hi => by rw [← e i hi]; exact hx i hi⟩
theorem Own.zero {w : World} {base : Nat} {v : Value} {j n : Nat} {x : Nat → Nat → Nat} (h : Own w base v j n x) : Own w 0 v j n x := by
  obtain ⟨xs, ho, h0, hx⟩ := h
  refine ⟨xs, ⟨ho.1, ?_⟩, h0, hx⟩
  rcases ho.2 with h1 | ⟨g, cap, cur, e, -, h2⟩
  · exact .inl h1
  · exact .inr ⟨g, cap, cur, e, Nat.zero_le _, h2⟩
theorem Lst.src {w : World} {g cap m n : Nat} {x : Nat → Nat → Nat} (h : Lst w g cap m n x) : Src w g m n x := fun i hi => by
  obtain ⟨b, c, h1, h2, -⟩ := h.at i hi
  exact ⟨_, c, h1, h2⟩

set_option maxRecDepth 100000 in
set_option maxHeartbeats 400000 in
theorem radd_no (D R k size d n m c1 c2 : Nat) (V : Nat → Nat → Nat) (a1 a2 : Option Addr) (w : World) (h : RefAt w D R k size d V) (hno : n ≠ k ∨ m ≠ size) :
    Calls Try.prog 27 #[.pointer (some ⟨D, 0, none⟩), .slice a1 n c1, .slice a2 m c2] w fun e w' => e = .returned (.bool false) ∧ w' = w := by
  have r1 := h.kc
  have z1 := h.sc
  clear h
  by_cases hn : n = k
  · have h1 : ((n : Int) == (k : Int)) = true := by simp [hn]
    have h2 : ((m : Int) == (size : Int)) = false := by simp; omega
    subst hn
    clear hno
    go_enter Try.func27, Try.ntmps27
    go_wp2
    go_ret
    exact ⟨rfl, rfl⟩
  · have h1 : ((n : Int) == (k : Int)) = false := by simp; omega
    clear hno
    go_enter Try.func27, Try.ntmps27
    go_wp2
    go_ret
    exact ⟨rfl, rfl⟩

/-- What Add answers and leaves. -/
def RAdded (w : World) (D R k size d : Nat) (V : Nat → Nat → Nat) (v : Nat → Nat) (e : Ending) (w' : World) : Prop :=
  ∃ (n : Nat) (Vr : Nat → Nat → Nat) (T : Nat → Option (Nat → Nat)), Stg (d + 1) k n (more V d v) Vr T ∧
    ((n ≤ d ∧ e = .returned (.bool false) ∧ RefAt w' D R k size d V) ∨ (d < n ∧ e = .returned (.bool true) ∧ RefAt w' D R k size (d + 1) (more V d v))) ∧ Kept D w w'

/-- Rows that are laid down as the document's own. -/
theorem ref_set {W : World} {D R k size d : Nat} {V V' : Nat → Nat → Nat} {va vb : Value} {base : Nat} (h : RefAt W D R k size d V) (ha : Own W base va (d + 1) k V') (hb : Own W base vb (d + 1) size (fun i t => V' i (k + t)))
    (hD : D < base) (hR : R < base) (k1 : 0 < k) (s1 : 0 < size) : RefAt ((W.setCell ⟨D, 2, none⟩ va).setCell ⟨D, 3, none⟩ vb) D R k size (d + 1) V' := by
  have hk : Kept D W ((W.setCell ⟨D, 2, none⟩ va).setCell ⟨D, 3, none⟩ vb) := (Kept.set W 2 va).trans (Kept.set _ 3 vb)
  have hne : ∀ b m y, 0 < m → BytesAt W (some ⟨b, 0, none⟩) m y → b ≠ D := by
    rintro b m y hm hB rfl
    have := bytes_cell hB 0 hm
    rw [Nat.add_zero, h.kc] at this
    cases this
  have oth : ∀ o, o ≠ 2 → o ≠ 3 → ((W.setCell ⟨D, 2, none⟩ va).setCell ⟨D, 3, none⟩ vb).cell? ⟨D, o, none⟩ = W.cell? ⟨D, o, none⟩ := by
    intro o h1 h2
    rw [World.cell?_setCell_other _ _ _ _ (addr_ne (Ne.symm h2)), World.cell?_setCell_other _ _ _ _ (addr_ne (Ne.symm h1))]
  obtain ⟨va0, a1, -⟩ := h.rows
  obtain ⟨vb0, b1, -⟩ := h.data
  have big : ∀ v : Value, (∀ g, v.ownBlock = some g → base ≤ g) → ∀ x, x < base → v.ownBlock ≠ some x := fun v hv x hx e => by have := hv x e; omega
  have ga := big va fun g e => (ha.lt g e).1
  have gb := big vb fun g e => (hb.lt g e).1
  refine ⟨(oth 0 (by decide) (by decide)).trans h.kc, (oth 1 (by decide) (by decide)).trans h.sc, ⟨va, ?_, ha.zero.kept hk (ga D hD) hne k1, fun e => absurd e (by omega), ga D hD, ga R hR⟩, ⟨vb, ?_, hb.zero.kept hk (gb D hD) hne s1, fun e => absurd e (by omega), gb D hD, gb R hR⟩, fun o => ?_⟩
  · rw [World.cell?_setCell_other _ _ _ _ (addr_ne (by decide)), World.cell?_setCell_same _ _ _ a1]
  · rw [World.cell?_setCell_same _ _ _ (by rw [World.cell?_setCell_other _ _ _ _ (addr_ne (by decide))]; exact b1)]
  · have := h.thaw o
    simpa using this

set_option maxRecDepth 100000 in
set_option maxHeartbeats 2000000 in
theorem radd_yes (D R k size d c1 c2 : Nat) (V : Nat → Nat → Nat) (v : Nat → Nat) (a1 a2 : Option Addr) (w : World) (h : RefAt w D R k size d V) (hx : BytesAt w a1 k v) (hy : BytesAt w a2 size (fun t => v (k + t)))
    (hV : ∀ t, t < d → Byt (V t)) (hv : Byt v) (k1 : 1 ≤ k) (k2 : k ≤ 32) (s1 : 1 ≤ size) (s2 : size ≤ 64) (hd : d ≤ 50) (hR : R < w.heap.size) :
    Calls Try.prog 27 #[.pointer (some ⟨D, 0, none⟩), .slice a1 k c1, .slice a2 size c2] w fun e w' => RAdded w D R k size d V v e w' := by
  have hDl : D < w.heap.size := cell_lt h.kc
  obtain ⟨va, p1, p2, p3, -⟩ := h.rows
  obtain ⟨vb, q1, q2, q3, -⟩ := h.data
  have kc := h.kc
  have sc := h.sc
  -- rows
  obtain ⟨v33, W1, hr33, O33, b33, g33⟩ := rows_run (w0 := w) 77 p2 p3 (by omega) (by omega) (Below.refl _ w)
  have bW1 : Below w.heap.size w W1 := b33
  have b1a : Below W1.heap.size W1 (W1.alloc (.cells #[] 5)) := (Below.refl _ _).alloc (Nat.le_refl _) _
  obtain ⟨cap36, W2, hr36, B36, b36⟩ := clone_run ⟨W1.heap.size, 0, none⟩ 26 a1 k c1 v (W1.alloc (.cells #[] 5)) ((hx.grew bW1).grew b1a) (by omega) (by omega)
  rw [World.size_alloc] at hr36 B36
  have bW2 : Below W1.heap.size W1 W2 := b1a.trans (b36.mono b1a.size)
  have b2a : Below W2.heap.size W2 (W2.alloc (.cells #[.slice (some ⟨W1.heap.size + 1, 0, none⟩) k cap36] 26)) := (Below.refl _ _).alloc (Nat.le_refl _) _
  have c36 : (W2.alloc (.cells #[.slice (some ⟨W1.heap.size + 1, 0, none⟩) k cap36] 26)).cell? ⟨W2.heap.size, 0, none⟩ = some (.slice (some ⟨W1.heap.size + 1, 0, none⟩) k cap36) := by rw [World.cell?_alloc_at _ _ _ _ rfl]; rfl
  have C2 : Cp w (W2.alloc (.cells #[.slice (some ⟨W1.heap.size + 1, 0, none⟩) k cap36] 26)) v33 (.slice none 0 0) d 0 k size (more V d v) (fun i t => more V d v i (k + t)) :=
    ⟨((O33.grew bW2).grew b2a).congr (more_old V d v), ⟨[], World.ownsRow_nil _ _ _ _, (fun _ _ e => nomatch e), fun i hi => absurd hi (Nat.not_lt_zero _)⟩, (fun _ _ e => nomatch e), (bW1.trans (bW2.mono bW1.size)).trans (b2a.mono (Nat.le_trans bW1.size bW2.size))⟩
  obtain ⟨v38, W3, hr38, C3⟩ := C2.push W2.heap.size (W1.heap.size + 1) cap36 77 c36 (by rw [more_new]; exact B36.grew b2a) (by omega) (by omega) (by omega)
  -- data
  have bW3 := C3.below
  obtain ⟨v44, W4, hr44, O44, b44, g44⟩ := rows_run (w0 := w) (W := W3) 77 (q2.grew bW3) q3 (by omega) (by omega) bW3
  have b4a : Below W4.heap.size W4 (W4.alloc (.cells #[] 5)) := (Below.refl _ _).alloc (Nat.le_refl _) _
  have bW4 : Below w.heap.size w W4 := bW3.trans (b44.mono bW3.size)
  obtain ⟨cap47, W5, hr47, B47, b47⟩ := clone_run ⟨W4.heap.size, 0, none⟩ 26 a2 size c2 (fun t => v (k + t)) (W4.alloc (.cells #[] 5)) ((hy.grew bW4).grew b4a) (by omega) (by omega)
  rw [World.size_alloc] at hr47 B47
  have bW5 : Below W4.heap.size W4 W5 := b4a.trans (b47.mono b4a.size)
  have b5a : Below W5.heap.size W5 (W5.alloc (.cells #[.slice (some ⟨W4.heap.size + 1, 0, none⟩) size cap47] 26)) := (Below.refl _ _).alloc (Nat.le_refl _) _
  have c47 : (W5.alloc (.cells #[.slice (some ⟨W4.heap.size + 1, 0, none⟩) size cap47] 26)).cell? ⟨W5.heap.size, 0, none⟩ = some (.slice (some ⟨W4.heap.size + 1, 0, none⟩) size cap47) := by rw [World.cell?_alloc_at _ _ _ _ rfl]; rfl
  have C5 : Cp w (W5.alloc (.cells #[.slice (some ⟨W4.heap.size + 1, 0, none⟩) size cap47] 26)) v38 v44 (d + 1) d k size (more V d v) (fun i t => more V d v i (k + t)) :=
    ⟨((C3.a.grew b44).grew bW5).grew b5a, ((O44.grew bW5).grew b5a).congr (fun i hi => by funext t; rw [← more_old V d v i hi]), fun g e1 e2 => by have := (C3.a.lt g e1).2; have := g44 g e2; omega, (bW4.trans (bW5.mono bW4.size)).trans (b5a.mono (Nat.le_trans bW4.size bW5.size))⟩
  obtain ⟨v49, W6, hr49, C6'⟩ := C5.turn.push W5.heap.size (W4.heap.size + 1) cap47 77 c47 (by rw [more_new]; exact B47.grew b5a) (by omega) (by omega) (by omega)
  have C6 := C6'.turn
  obtain ⟨ga, ca, rfl, gga, LA⟩ := C6.a.lst (by omega) (by omega)
  obtain ⟨gb, cb, rfl, ggb, LB⟩ := C6.b.lst (by omega) (by omega)
  have d2 : (w.alloc (.cells #[] 26)).cell? ⟨D, 2, none⟩ = some va := Go.Lib.cell?_alloc_some _ p1
  have d3 : (W3.alloc (.cells #[] 26)).cell? ⟨D, 3, none⟩ = some vb := Go.Lib.cell?_alloc_some _ ((bW3.cell (p := ⟨D, 3, none⟩) hDl).trans q1)
  have d0 : W6.cell? ⟨D, 0, none⟩ = some (.int .i64 (k : Int)) := (C6.below.cell (p := ⟨D, 0, none⟩) hDl).trans kc
  have R6 : Hid (RefAt W6 D R k size d V) := h.grew C6.below
  have red : Hid _ := reduced_any k size (d + 1) ga gb ca cb (more V d v) W6 k1 k2 s1 s2 (by omega) (by omega) LA.src LB.src (fun t ht => by
    by_cases e : t = d
    · rw [e, more_new]; exact hv
    · rw [← more_old V d v t (by omega)]; exact hV t (by omega))
  have C6 : Hid _ := C6
  obtain ⟨ra, cva, rfl⟩ := p2.form
  have HP : Hid (w.cell? ⟨D, 2, none⟩ = some (.slice ra d cva)) := p1
  clear h hx hy hV hv p2 p3 q2 q3 O33 b33 g33 bW1 b1a B36 b36 bW2 b2a c36 C2 C3 bW3 O44 b44 g44 b4a bW4 B47 b47 bW5 b5a c47 C5 C6' LA LB gga ggb p1 q1
  go_enter Try.func27, Try.ntmps27
  go_wp2_with (first
    | (at_builtin; refine Go.Lib.wpList_append_run _ rfl (.tmp 28) (.tmp 32) 77 77 rfl _ _ rfl rfl _ _ hr33 ?_)
    | (at_builtin; refine Go.Lib.wpList_append_run _ rfl (.tmp 34) (.tmp 35) 26 26 rfl _ _ rfl rfl _ _ hr36 ?_)
    | (at_builtin; refine Go.Lib.wpList_append_run _ rfl (.tmp 33) (.tmp 37) 77 77 rfl _ _ rfl rfl _ _ hr38 ?_)
    | (at_builtin; refine Go.Lib.wpList_append_run _ rfl (.tmp 39) (.tmp 43) 77 77 rfl _ _ rfl rfl _ _ hr44 ?_)
    | (at_builtin; refine Go.Lib.wpList_append_run _ rfl (.tmp 45) (.tmp 46) 26 26 rfl _ _ rfl rfl _ _ hr47 ?_)
    | (at_builtin; refine Go.Lib.wpList_append_run _ rfl (.tmp 44) (.tmp 48) 77 77 rfl _ _ rfl rfl _ _ hr49 ?_))
  refine Calls.mono (Hid.out red) ?_
  rintro e W7 ⟨ga7, gb7, ca7, cb7, n, Vr, T, rfl, st, -, -, -, -, -, b7⟩
  have R7 : Hid (RefAt W7 D R k size d V) := R6.out.grew b7
  have B7 : Below w.heap.size w W7 := C6.out.below.trans (b7.mono C6.out.below.size)
  have e2 : W7.cell? ⟨D, 2, none⟩ = some (.slice ra d cva) := (B7.cell (p := ⟨D, 2, none⟩) hDl).trans HP.out
  obtain ⟨vb7, e3, -⟩ := R7.out.data
  have f2 := R7.out.thaw 2
  have f3 := R7.out.thaw 3
  have OA : Hid (Own W7 w.heap.size (.slice (some ⟨ga, 0, none⟩) (d + 1) ca) (d + 1) k (more V d v)) := C6.out.a.grew b7
  have OB : Hid (Own W7 w.heap.size (.slice (some ⟨gb, 0, none⟩) (d + 1) cb) (d + 1) size (fun i t => more V d v i (k + t))) := C6.out.b.grew b7
  have K7 : Hid (Kept D w W7) := Kept.of_below B7
  have ST : Hid (Stg (d + 1) k n (more V d v) Vr T) := st
  have HDl : Hid (D < w.heap.size) := hDl
  have HRl : Hid (R < w.heap.size) := hR
  have lt2 := st.le
  clear st b7 B7 R6 C6 red HP hr33 hr36 hr38 hr44 hr47 hr49 d0 d2 d3 kc sc hDl hR
  by_cases hn : n ≤ d
  · have i1 : (n : Int) ≤ (d : Int) := by omega
    go_wp2
    go_ret
    exact ⟨n, Vr, T, ST.out, .inl ⟨hn, rfl, R7.out⟩, K7.out⟩
  · have i1 : ¬ ((n : Int) ≤ (d : Int)) := by omega
    have HN : Hid (d < n) := by show d < n; omega
    clear hn
    go_wp2
    go_ret
    exact ⟨n, Vr, T, ST.out, .inr ⟨HN.out, rfl, ref_set R7.out OA.out OB.out HDl.out HRl.out (by omega) (by omega)⟩, (K7.out.trans (Kept.set _ 2 _)).trans (Kept.set _ 3 _)⟩

end Go.Proofs.Ythlidbenhlidjaa

/-
  The document's Basis: Solve.
-/
namespace Go.Proofs.Ythlidbenhlidjaa
open Go.RowKit Go.Deep

set_option maxRecDepth 100000 in
set_option maxHeartbeats 1000000 in
theorem rsolve_no (D R k size d : Nat) (V : Nat → Nat → Nat) (w : World) (h : RefAt w D R k size d V) (hd : d < k) :
    Calls Try.prog 28 #[.pointer (some ⟨D, 0, none⟩)] w fun e w' => e = .returned (.tuple #[.slice none 0 0, .bool false]) ∧ Same w w' := by
  obtain ⟨va, p1, p2, -⟩ := h.rows
  obtain ⟨ra, cva, rfl⟩ := p2.form
  have kc := h.kc
  have i1 : (d : Int) < (k : Int) := by omega
  clear h p2
  go_enter Try.func28, Try.ntmps28
  go_wp2_with fail
  go_quiet (fail)
  go_wp2
  go_ret2
  exact ⟨rfl, nq, rfl⟩

/-- The symbols were answered. -/
def RSolved (w : World) (k size d : Nat) (V : Nat → Nat → Nat) (e : Ending) (w' : World) : Prop :=
  ∃ (gb cb n : Nat) (Vr : Nat → Nat → Nat) (T : Nat → Option (Nat → Nat)), e = .returned (.tuple #[.slice (some ⟨gb, 0, none⟩) d cb, .bool true]) ∧ Stg d k n V Vr T ∧ Lst w' gb cb d size (fun i t => Vr i (k + t)) ∧ Below w.heap.size w w'

set_option maxRecDepth 100000 in
set_option maxHeartbeats 1000000 in
theorem rsolve_yes (D R k size d : Nat) (V : Nat → Nat → Nat) (w : World) (h : RefAt w D R k size d V) (hd : k ≤ d) (hV : ∀ t, t < d → Byt (V t)) (k1 : 1 ≤ k) (k2 : k ≤ 32) (s1 : 1 ≤ size) (s2 : size ≤ 64) (d2 : d ≤ 50) :
    Calls Try.prog 28 #[.pointer (some ⟨D, 0, none⟩)] w fun e w' => RSolved w k size d V e w' := by
  obtain ⟨va, p1, p2, -⟩ := h.rows
  obtain ⟨vb, q1, q2, -⟩ := h.data
  obtain ⟨ga, ca, rfl, -, LA⟩ := p2.lst (by omega) (by omega)
  obtain ⟨gb, cb, rfl, -, LB⟩ := q2.lst (by omega) (by omega)
  have kc := h.kc
  have i1 : ¬ ((d : Int) < (k : Int)) := by omega
  have RD : Hid (∀ t, Calls Try.prog 33 #[.int .i64 (k : Int), .slice (some ⟨ga, 0, none⟩) d ca, .slice (some ⟨gb, 0, none⟩) d cb] (w.drewN t) fun e w' => Reduced (w.drewN t) d k size V e w') := fun t =>
    reduced_any k size d ga gb ca cb V (w.drewN t) k1 k2 s1 s2 (by omega) (by omega) (LA.grew (below_drews t)).src (LB.grew (below_drews t)).src hV
  clear h p2 q2 LA LB hV
  go_enter Try.func28, Try.ntmps28
  go_wp2_with fail
  go_quiet (fail)
  have p1 : (w.drewN nq).cell? ⟨D, 2, none⟩ = some (.slice (some ⟨ga, 0, none⟩) d ca) := p1
  have q1 : (w.drewN nq).cell? ⟨D, 3, none⟩ = some (.slice (some ⟨gb, 0, none⟩) d cb) := q1
  have kc : (w.drewN nq).cell? ⟨D, 0, none⟩ = some (.int .i64 (k : Int)) := kc
  have RD1 : Hid (Calls Try.prog 33 #[.int .i64 (k : Int), .slice (some ⟨ga, 0, none⟩) d ca, .slice (some ⟨gb, 0, none⟩) d cb] (w.drewN nq).drew fun e w' => Reduced (w.drewN nq).drew d k size V e w') := RD.out (nq + 1)
  have Q1 : Hid (Below w.heap.size w (w.drewN nq).drew) := (below_drews nq).drew
  clear RD
  generalize w.drewN nq = w1 at *
  go_wp2_with fail
  refine Hld.begin (fun listed w' => listed.getD 12 true = false → w'.cell? ⟨D, 0, none⟩ = some (.int .i64 (k : Int)) ∧ w'.cell? ⟨D, 2, none⟩ = some (.slice (some ⟨ga, 0, none⟩) d ca) ∧ w'.cell? ⟨D, 3, none⟩ = some (.slice (some ⟨gb, 0, none⟩) d cb)) (by kernel_rfl) ?_
  refine Hld.take (i := 0) (v := .pointer (some ⟨D, 0, none⟩)) rfl (by kernel_rfl) (by kernel_rfl) (by kernel_rfl) (fun _ _ _ h => h) (fun listed w h hl => h (by rw [getD_set_ne true (by decide)]; exact hl)) (Or.inl ⟨by kernel_rfl, fun _ => by kernel_rfl⟩) (fun _ => ⟨kc, p1, q1⟩) ?_
  refine Hld.take (i := 1) (v := .pointer (some ⟨D, 0, none⟩)) rfl (by kernel_rfl) (by kernel_rfl) (by kernel_rfl) (fun _ _ _ h => h) (fun listed w h hl => h (by rw [getD_set_ne true (by decide)]; exact hl)) (Or.inl ⟨by kernel_rfl, fun _ => by kernel_rfl⟩) (fun _ => ⟨kc, p1, q1⟩) ?_
  refine Hld.take (i := 2) (v := .pointer (some ⟨D, 0, none⟩)) rfl (by kernel_rfl) (by kernel_rfl) (by kernel_rfl) (fun _ _ _ h => h) (fun listed w h hl => h (by rw [getD_set_ne true (by decide)]; exact hl)) (Or.inl ⟨by kernel_rfl, fun _ => by kernel_rfl⟩) (fun _ => ⟨kc, p1, q1⟩) ?_
  refine Hld.takeT (i := 3) (v := .int .i64 (k : Int)) 12 (fun w' => w'.cell? ⟨D, 0, none⟩ = some (.int .i64 (k : Int))) rfl (by kernel_rfl) (by kernel_rfl) (by kernel_rfl) (by kernel_rfl) (by kernel_rfl) (fun _ _ _ h => h) (fun listed w h hl => h (by rw [getD_set_ne true (by decide)]; exact hl)) (fun listed w hl h => (h hl).1) (Or.inl ⟨by kernel_rfl, fun W hW => by have g := hW; go_simp⟩) (fun _ => ⟨kc, p1, q1⟩) ?_
  refine Hld.take (i := 4) (v := .pointer (some ⟨D, 0, none⟩)) rfl (by kernel_rfl) (by kernel_rfl) (by kernel_rfl) (fun _ _ _ h => h) (fun listed w h hl => h (by rw [getD_set_ne true (by decide)]; exact hl)) (Or.inl ⟨by kernel_rfl, fun _ => by kernel_rfl⟩) (fun _ => ⟨kc, p1, q1⟩) ?_
  refine Hld.take (i := 5) (v := .pointer (some ⟨D, 0, none⟩)) rfl (by kernel_rfl) (by kernel_rfl) (by kernel_rfl) (fun _ _ _ h => h) (fun listed w h hl => h (by rw [getD_set_ne true (by decide)]; exact hl)) (Or.inl ⟨by kernel_rfl, fun _ => by kernel_rfl⟩) (fun _ => ⟨kc, p1, q1⟩) ?_
  refine Hld.take (i := 6) (v := .pointer (some ⟨D, 2, none⟩)) rfl (by kernel_rfl) (by kernel_rfl) (by kernel_rfl) (fun _ _ _ h => h) (fun listed w h hl => h (by rw [getD_set_ne true (by decide)]; exact hl)) (Or.inl ⟨by kernel_rfl, fun _ => by kernel_rfl⟩) (fun _ => ⟨kc, p1, q1⟩) ?_
  refine Hld.takeT (i := 7) (v := .slice (some ⟨ga, 0, none⟩) d ca) 12 (fun w' => w'.cell? ⟨D, 2, none⟩ = some (.slice (some ⟨ga, 0, none⟩) d ca)) rfl (by kernel_rfl) (by kernel_rfl) (by kernel_rfl) (by kernel_rfl) (by kernel_rfl) (fun _ _ _ h => h) (fun listed w h hl => h (by rw [getD_set_ne true (by decide)]; exact hl)) (fun listed w hl h => (h hl).2.1) (Or.inl ⟨by kernel_rfl, fun W hW => by have g := hW; go_simp⟩) (fun _ => ⟨kc, p1, q1⟩) ?_
  refine Hld.take (i := 8) (v := .pointer (some ⟨D, 0, none⟩)) rfl (by kernel_rfl) (by kernel_rfl) (by kernel_rfl) (fun _ _ _ h => h) (fun listed w h hl => h (by rw [getD_set_ne true (by decide)]; exact hl)) (Or.inl ⟨by kernel_rfl, fun _ => by kernel_rfl⟩) (fun _ => ⟨kc, p1, q1⟩) ?_
  refine Hld.take (i := 9) (v := .pointer (some ⟨D, 0, none⟩)) rfl (by kernel_rfl) (by kernel_rfl) (by kernel_rfl) (fun _ _ _ h => h) (fun listed w h hl => h (by rw [getD_set_ne true (by decide)]; exact hl)) (Or.inl ⟨by kernel_rfl, fun _ => by kernel_rfl⟩) (fun _ => ⟨kc, p1, q1⟩) ?_
  refine Hld.take (i := 10) (v := .pointer (some ⟨D, 3, none⟩)) rfl (by kernel_rfl) (by kernel_rfl) (by kernel_rfl) (fun _ _ _ h => h) (fun listed w h hl => h (by rw [getD_set_ne true (by decide)]; exact hl)) (Or.inl ⟨by kernel_rfl, fun _ => by kernel_rfl⟩) (fun _ => ⟨kc, p1, q1⟩) ?_
  refine Hld.takeT (i := 11) (v := .slice (some ⟨gb, 0, none⟩) d cb) 12 (fun w' => w'.cell? ⟨D, 3, none⟩ = some (.slice (some ⟨gb, 0, none⟩) d cb)) rfl (by kernel_rfl) (by kernel_rfl) (by kernel_rfl) (by kernel_rfl) (by kernel_rfl) (fun _ _ _ h => h) (fun listed w h hl => h (by rw [getD_set_ne true (by decide)]; exact hl)) (fun listed w hl h => (h hl).2.2) (Or.inl ⟨by kernel_rfl, fun W hW => by have g := hW; go_simp⟩) (fun _ => ⟨kc, p1, q1⟩) ?_
  refine Hld.next (i := 12) (by kernel_rfl) rfl (fun K2 hK2 => ?_)
  go_simp
  refine Calls.mono (Hid.out RD1) ?_
  rintro e W7 ⟨ga7, gb7, ca7, cb7, n, Vr, T, rfl, st, -, L7, -, -, -, b7⟩
  have FIN : Hid (Stg d k n V Vr T ∧ Lst W7 gb7 cb7 d size (fun i t => Vr i (k + t)) ∧ Below w.heap.size w W7) := ⟨st, L7, Q1.out.trans (b7.mono Q1.out.size)⟩
  clear st L7 b7
  refine hK2.out _ _ (fun h => absurd (Eq.trans (Eq.symm (by kernel_rfl)) h) (by decide : ¬ (true = false))) ?_
  clear hK2 K2
  refine Hld.take (i := 13) (v := .tuple #[.slice (some ⟨ga7, 0, none⟩) d ca7, .slice (some ⟨gb7, 0, none⟩) d cb7, .int .i64 (n : Int)]) rfl (by kernel_rfl) (by kernel_rfl) (by kernel_rfl) (fun _ _ _ h => h) (fun listed w h hl => h (by rw [getD_set_ne true (by decide)]; exact hl)) (Or.inl ⟨by kernel_rfl, fun _ => by kernel_rfl⟩) (fun h => absurd (Eq.trans (Eq.symm (by kernel_rfl)) h) (by decide : ¬ (true = false))) ?_
  refine Hld.take (i := 14) (v := .slice (some ⟨ga7, 0, none⟩) d ca7) rfl (by kernel_rfl) (by kernel_rfl) (by kernel_rfl) (fun _ _ _ h => h) (fun listed w h hl => h (by rw [getD_set_ne true (by decide)]; exact hl)) (Or.inl ⟨by kernel_rfl, fun _ => by kernel_rfl⟩) (fun h => absurd (Eq.trans (Eq.symm (by kernel_rfl)) h) (by decide : ¬ (true = false))) ?_
  refine Hld.take (i := 15) (v := .slice (some ⟨gb7, 0, none⟩) d cb7) rfl (by kernel_rfl) (by kernel_rfl) (by kernel_rfl) (fun _ _ _ h => h) (fun listed w h hl => h (by rw [getD_set_ne true (by decide)]; exact hl)) (Or.inl ⟨by kernel_rfl, fun _ => by kernel_rfl⟩) (fun h => absurd (Eq.trans (Eq.symm (by kernel_rfl)) h) (by decide : ¬ (true = false))) ?_
  refine Hld.take (i := 16) (v := .int .i64 (n : Int)) rfl (by kernel_rfl) (by kernel_rfl) (by kernel_rfl) (fun _ _ _ h => h) (fun listed w h hl => h (by rw [getD_set_ne true (by decide)]; exact hl)) (Or.inl ⟨by kernel_rfl, fun _ => by kernel_rfl⟩) (fun h => absurd (Eq.trans (Eq.symm (by kernel_rfl)) h) (by decide : ¬ (true = false))) ?_
  refine Hld.next (i := 17) (by kernel_rfl) rfl (fun K2 hK2 => ?_)
  go_simp
  refine hK2.out _ _ (fun h => absurd (Eq.trans (Eq.symm (by kernel_rfl)) h) (by decide : ¬ (true = false))) ?_
  clear hK2 K2
  refine Hld.next (i := 18) (by kernel_rfl) rfl (fun K2 hK2 => ?_)
  go_simp
  refine hK2.out _ _ (fun h => absurd (Eq.trans (Eq.symm (by kernel_rfl)) h) (by decide : ¬ (true = false))) ?_
  clear hK2 K2
  refine Hld.next (i := 19) (by kernel_rfl) rfl (fun K2 hK2 => ?_)
  go_simp
  refine hK2.out _ _ (fun h => absurd (Eq.trans (Eq.symm (by kernel_rfl)) h) (by decide : ¬ (true = false))) ?_
  clear hK2 K2
  refine Hld.done (by kernel_rfl) ?_ _
  go_wp2
  go_ret2
  exact ⟨gb7, cb7, n, Vr, T, rfl, FIN.out.1, FIN.out.2.1, FIN.out.2.2⟩
end Go.Proofs.Ythlidbenhlidjaa

/-
  Package cut: Join.
-/
namespace Go.Proofs.Ythlidbenhlidjaa
open Go.RowKit Go.Deep

/-- As ListsAt, with no word on rooms. -/
def RowsAt (w : World) (a : Option Addr) (len : Nat) (A : Nat → Option Addr) (L C : Nat → Nat) (Z : Nat → Nat → Nat) : Prop :=
  0 < len → ∃ b o, a = some ⟨b, o, none⟩ ∧ ∀ i, i < len → w.cell? ⟨b, o + i, none⟩ = some (.slice (A i) (L i) (C i)) ∧ BytesAt w (A i) (L i) (Z i)
theorem ListsAt.rows {w : World} {a : Option Addr} {n : Nat} {A : Nat → Option Addr} {L C : Nat → Nat} {Z : Nat → Nat → Nat} (h : ListsAt w a n A L C Z) : RowsAt w a n A L C Z := fun hn => by
  obtain ⟨b, o, e, hc⟩ := h hn
  exact ⟨b, o, e, fun i hi => ⟨(hc i hi).1, (hc i hi).2.2.2⟩⟩
theorem RowsAt.grew {w w' : World} {a : Option Addr} {n : Nat} {A : Nat → Option Addr} {L C : Nat → Nat} {Z : Nat → Nat → Nat} (h : RowsAt w a n A L C Z) (hb : Below w.heap.size w w') : RowsAt w' a n A L C Z := by
  intro hn
  obtain ⟨b, o, e, hc⟩ := h hn
  refine ⟨b, o, e, fun i hi => ?_⟩
  obtain ⟨h1, h4⟩ := hc i hi
  exact ⟨(hb.cell (p := ⟨b, o + i, none⟩) (cell_lt h1)).trans h1, h4.grew hb⟩

/-- The bytes of symbols of s bytes, one behind the other. -/
def joined (Z : Nat → Nat → Nat) (s i : Nat) : Nat := Z (i / s) (i % s)
/-- .. behind j of them. -/
def joinTo (Z : Nat → Nat → Nat) (s j i : Nat) : Nat := if i < j * s then joined Z s i else 0

theorem join_step (Z : Nat → Nat → Nat) (s j m size i : Nat) (s1 : 1 ≤ s) (hm : m = j * s) (hi : i < size) : over (joinTo Z s j) (Z j) m (min s (size - m)) i = joinTo Z s (j + 1) i := by
  have e : (j + 1) * s = m + s := by rw [Nat.add_mul, Nat.one_mul, hm]
  unfold over joinTo
  rw [e, ← hm]
  by_cases h1 : i < m
  · rw [if_neg (by omega), if_pos h1, if_pos (by omega)]
  · by_cases h2 : i < m + s
    · rw [if_pos (by omega), if_pos h2]
      have h3 : i / s = j := Nat.div_eq_of_lt_le (by omega) (by omega)
      have h4 := Nat.div_add_mod i s
      rw [h3, Nat.mul_comm s j, ← hm] at h4
      unfold joined
      rw [h3, show i % s = i - m by omega]
    · rw [if_neg (by omega), if_neg h1, if_neg h2]
theorem cnt_ge (n s : Nat) (s1 : 1 ≤ s) : n ≤ cntOf n s * s := by
  have h : (n + s - 1) / s < (n + s - 1) / s + 1 := Nat.lt_succ_self _
  have h2 := (Nat.div_lt_iff_lt_mul (by omega)).1 h
  rw [Nat.add_mul, Nat.one_mul] at h2
  unfold cntOf
  omega

theorem joined_piece (x : Nat → Nat) (n s i : Nat) (hi : i < n) : joined (piece x n s) s i = x i := by
  have h := Nat.div_add_mod i s
  unfold joined piece
  rw [Nat.mul_comm (i / s) s, h, if_pos hi]
theorem ListsAt.grew {w w' : World} {a : Option Addr} {n : Nat} {A : Nat → Option Addr} {L C : Nat → Nat} {Z : Nat → Nat → Nat} (h : ListsAt w a n A L C Z) (hb : Below w.heap.size w w') : ListsAt w' a n A L C Z := by
  intro hn
  obtain ⟨b, o, e, hc⟩ := h hn
  refine ⟨b, o, e, fun i hi => ?_⟩
  obtain ⟨h1, h2, h3, h4⟩ := hc i hi
  exact ⟨(hb.cell (p := ⟨b, o + i, none⟩) (cell_lt h1)).trans h1, h2, h3, h4.grew hb⟩

/-- A refusal within: no answer. -/
def Refused (w : World) (e : Ending) (w' : World) : Prop := e = .panicked noted ∧ w' = w

/-- A new row of n bytes x was answered, and yes. -/
def RowYes (w : World) (n : Nat) (x : Nat → Nat) (e : Ending) (w' : World) : Prop :=
  ∃ b c, e = .returned (.tuple #[.slice (some ⟨b, 0, none⟩) n c, .bool true]) ∧ w.heap.size ≤ b ∧ n ≤ c ∧ c ≤ 1000000 ∧ BytesAt w' (some ⟨b, 0, none⟩) n x ∧ Below w.heap.size w w'
/-- Nothing was answered, and no. -/
def RowNo (w : World) (e : Ending) (w' : World) : Prop := e = .returned (.tuple #[.slice none 0 0, .bool false]) ∧ Below w.heap.size w w'

end Go.Proofs.Ythlidbenhlidjaa

/-
  The document's Join; that two lists of texts are the same.
-/
namespace Go.Proofs.Ythlidbenhlidjaa
open Go.RowKit Go.Deep

theorem joined_at (Z : Nat → Nat → Nat) (s j i : Nat) (hi : i < s) : joined Z s (j * s + i) = Z j i := by
  unfold joined
  rw [Nat.mul_comm, Nat.mul_add_div (by omega), Nat.mul_add_mod, Nat.div_eq_of_lt hi, Nat.mod_eq_of_lt hi, Nat.add_zero]

/-- Bytes were answered, and yes. -/
def Got (w : World) (n : Nat) (x : Nat → Nat) (e : Ending) (w' : World) : Prop :=
  ∃ a c, e = .returned (.tuple #[.slice a n c, .bool true]) ∧ BytesAt w' a n x ∧ Below w.heap.size w w'
/-- Texts of one length that are so many as size bytes have. -/
def Good (n : Nat) (L : Nat → Nat) (size : Int) : Prop := 0 < n ∧ (∀ i, i < n → L i = L 0) ∧ (1 ≤ L 0 ∧ L 0 ≤ 64 ∧ 1 ≤ size ∧ size ≤ 32 * (L 0 : Int)) ∧ cntOf size.toNat (L 0) = n
def JoinAns (w : World) (n : Nat) (L : Nat → Nat) (Z : Nat → Nat → Nat) (size : Int) (e : Ending) (w' : World) : Prop :=
  (Good n L size → Got w size.toNat (joined Z (L 0)) e w') ∧ (¬ Good n L size → RowNo w e w')

theorem rjoin_none (a : Option Addr) (c : Nat) (L : Nat → Nat) (Z : Nat → Nat → Nat) (size : Int) (w : World) :
    Calls Try.prog 29 #[.slice a 0 c, .int .i64 size] w fun e w' => JoinAns w 0 L Z size e w' := by
  go_enter Try.func29, Try.ntmps29
  go_wp2
  go_ret2
  exact ⟨fun g => absurd g.1 (by decide), fun _ => ⟨rfl, Below.refl _ _⟩⟩

set_option maxRecDepth 100000 in
set_option maxHeartbeats 1000000 in
theorem rjoin_lists (b o n c : Nat) (A : Nat → Option Addr) (L C : Nat → Nat) (Z : Nat → Nat → Nat) (size : Int) (w : World) (h : ∀ i, i < n → w.cell? ⟨b, o + i, none⟩ = some (.slice (A i) (L i) (C i)) ∧ BytesAt w (A i) (L i) (Z i)) (n1 : 0 < n) (n2 : n ≤ 40) (hL : ∀ i, i < n → L i ≤ 70) :
    Calls Try.prog 29 #[.slice (some ⟨b, o, none⟩) n c, .int .i64 size] w fun e w' => JoinAns w n L Z size e w' := by
  have c0 : w.cell? ⟨b, o, none⟩ = some (.slice (A 0) (L 0) (C 0)) := (h 0 n1).1
  have HC : Hid (∀ i, i < n → w.cell? ⟨b, o + i, none⟩ = some (.slice (A i) (L i) (C i)) ∧ BytesAt w (A i) (L i) (Z i)) := h
  have l0 := hL 0 n1
  have z0 : ((n : Int) == 0) = false := by simp; omega
  clear h
  go_enter Try.func29, Try.ntmps29
  go_wp2_with fail
  go_loopw [6, 7] (fun v i wr => ∃ j : Nat, j ≤ n ∧ i = .int .i64 j ∧ (∀ i, i < j → L i = L 0) ∧ Ror wr w.heap.size v (j * L 0) (joined Z (L 0)) ∧ Below w.heap.size w wr) (fun _ i _ => n - (intOf i).toNat)
  case atStart => exact ⟨0, Nat.zero_le _, rfl, fun i hi => absurd hi (by omega), by rw [Nat.zero_mul]; exact Ror.nil _ _ _, Below.refl _ _⟩
  case round =>
    obtain ⟨j, hj, rfl, he, hr, hb⟩ := hrel
    have HE : Hid (∀ i, i < j → L i = L 0) := he
    have HR : Hid (Ror wr w.heap.size u6 (j * L 0) (joined Z (L 0))) := hr
    have HB : Hid (Below w.heap.size w wr) := hb
    have c00 : wr.cell? ⟨b, o, none⟩ = some (.slice (A 0) (L 0) (C 0)) := (hb.cell (p := ⟨b, o, none⟩) (cell_lt c0)).trans c0
    clear he hr hb
    by_cases hjn : j < n
    · have i1 : (j : Int) < (n : Int) := by omega
      obtain ⟨d1, d2⟩ := HC.out j hjn
      have c1 : wr.cell? ⟨b, o + j, none⟩ = some (.slice (A j) (L j) (C j)) := (HB.out.cell (p := ⟨b, o + j, none⟩) (cell_lt d1)).trans d1
      have HD : Hid (BytesAt wr (A j) (L j) (Z j)) := d2.below HB.out (Nat.le_refl _)
      have lj := hL j hjn
      clear d1 d2
      by_cases e : L j = L 0
      · rw [e] at c1
        have HD2 : Hid (BytesAt wr (A j) (L 0) (Z j)) := by show BytesAt _ _ _ _; rw [← e]; exact HD.out
        have HE2 : Hid (∀ i, i < j + 1 → L i = L 0) := fun i hi => by
          by_cases g : i = j
          · rw [g]; exact e
          · exact HE.out i (by omega)
        clear HE HD e
        have A1 : Below wr.heap.size wr wr.drew := below_drews 1
        obtain ⟨v', w5, happ, hr5, hg5⟩ := (HR.out.grown A1).push (c := C j) (z := joined Z (L 0)) 26 (HD2.out.grew A1) (by have : j * L 0 ≤ 40 * 70 := Nat.mul_le_mul (by omega) l0; omega) HB.out.size (fun _ _ => rfl) (fun i hi => (joined_at Z (L 0) j i hi).symm)
        have HR5 : Hid (Ror w5 w.heap.size v' ((j + 1) * L 0) (joined Z (L 0))) := by show Ror _ _ _ _ _; rw [Nat.add_mul, Nat.one_mul]; exact hr5
        have HB5 : Hid (Below w.heap.size w w5) := (HB.out.trans (A1.mono HB.out.size)).grown hg5 HB.out.size (fun g e => (HR.out.lt g e).1)
        clear hr5 hg5 A1
        go_wp2_with fail
        go_region
        go_wp2_with (at_builtin; refine Go.Lib.wpList_append_run _ rfl (.tmp 29) (.tmp 33) 26 26 rfl _ _ rfl rfl _ _ happ ?_)
        go_roundw
        case rel => exact ⟨j + 1, by omega, by go_num, HE2.out, HR5.out, HB5.out⟩
        case measure => simp [intOf]; omega
      · have e1 : ((L j : Int) != (L 0 : Int)) = true := by simp; omega
        have HG : Hid (¬ Good n L size) := fun g => e (g.2.1 j hjn)
        clear HE e
        go_wp2_with fail
        go_region
        go_wp2
        go_ret2
        exact ⟨fun g => absurd g HG.out, fun _ => ⟨rfl, HB.out.trans (below_drews 1)⟩⟩
    · obtain rfl : j = n := by omega
      clear hjn hj
      by_cases g : 1 ≤ L 0 ∧ L 0 ≤ 64 ∧ 1 ≤ size ∧ size ≤ 32 * (L 0 : Int)
      · obtain ⟨z, rfl⟩ : ∃ z : Nat, size = z := ⟨size.toNat, by omega⟩
        obtain ⟨g1, g2, g3, g4⟩ := g
        go_wp2_with fail
        refine (rcount_yes z (L 0) _ g1 g2 (by omega) (by omega)).mono ?_
        rintro e w1 ⟨rfl, hw⟩
        have hw := hw.symm
        subst hw
        by_cases hk : cntOf z (L 0) = j
        · have HG : Hid (Good j L (z : Int)) := ⟨n1, HE.out, ⟨g1, g2, g3, g4⟩, by rw [Int.toNat_natCast]; exact hk⟩
          have hz : z ≤ j * L 0 := by rw [← hk]; exact cnt_ge z (L 0) g1
          obtain ⟨r, cap, rfl⟩ := ror_form HR.out (by omega)
          have hcap := ror_cap HR.out
          rw [hk]
          have hsl := slice_to (some ⟨r, 0, none⟩) (j * L 0) cap z wr (by omega)
          have HZ : Hid (BytesAt wr (some ⟨r, 0, none⟩) z (joined Z (L 0))) := (ror_bytes HR.out (fun i hi => ?_)).take hz
          · clear hk hz hcap
            go_wp2
            go_ret2
            exact ⟨fun _ => ⟨_, _, rfl, HZ.out, HB.out⟩, fun g => absurd HG.out g⟩
          · have h1 : i / L 0 < j := by rw [Nat.div_lt_iff_lt_mul (by omega)]; exact hi
            refine (HC.out (i / L 0) h1).2.lt _ ?_
            rw [HE.out _ h1]
            exact Nat.mod_lt _ (by omega)
        · have HG : Hid (¬ Good j L (z : Int)) := fun g => hk (by have := g.2.2.2; rwa [Int.toNat_natCast] at this)
          have e1 : ((cntOf z (L 0) : Int) != (j : Int)) = true := by simp; omega
          clear hk
          go_wp2
          go_ret2
          exact ⟨fun g => absurd g HG.out, fun _ => ⟨rfl, HB.out⟩⟩
      · have HG : Hid (¬ Good j L size) := fun h => g h.2.2.1
        go_wp2_with fail
        refine (rcount_no size (L 0) _ (by omega)).mono ?_
        rintro e w1 ⟨rfl, hw⟩
        have hw := hw.symm
        subst hw
        clear g
        go_wp2
        go_ret2
        exact ⟨fun g => absurd g HG.out, fun _ => ⟨rfl, HB.out⟩⟩

theorem rjoin_some (a : Option Addr) (n c : Nat) (A : Nat → Option Addr) (L C : Nat → Nat) (Z : Nat → Nat → Nat) (size : Int) (w : World) (h : ListsAt w a n A L C Z) (n1 : 0 < n) (n2 : n ≤ 40) (hL : ∀ i, i < n → L i ≤ 70) :
    Calls Try.prog 29 #[.slice a n c, .int .i64 size] w fun e w' => JoinAns w n L Z size e w' := by
  obtain ⟨b, o, rfl, hc⟩ := h n1
  exact rjoin_lists b o n c A L C Z size w (fun i hi => ⟨(hc i hi).1, (hc i hi).2.2.2⟩) n1 n2 hL

/-- The slice's address a leads to n texts, the i-th S i. -/
def TextsAt (w : World) (a : Option Addr) (n : Nat) (S : Nat → ByteArray) : Prop :=
  0 < n → ∃ b o, a = some ⟨b, o, none⟩ ∧ ∀ i, i < n → ∃ A L C x, w.cell? ⟨b, o + i, none⟩ = some (.slice A L C) ∧ BytesAt w A L x ∧ strOf L x = S i
theorem TextsAt.grew {w w' : World} {a : Option Addr} {n : Nat} {S : Nat → ByteArray} (h : TextsAt w a n S) (hb : Below w.heap.size w w') : TextsAt w' a n S := by
  intro hn
  obtain ⟨b, o, e, hc⟩ := h hn
  refine ⟨b, o, e, fun i hi => ?_⟩
  obtain ⟨A, L, C, x, h1, h2, h3⟩ := hc i hi
  exact ⟨A, L, C, x, (hb.cell (p := ⟨b, o + i, none⟩) (cell_lt h1)).trans h1, h2.grew hb, h3⟩

end Go.Proofs.Ythlidbenhlidjaa

/-
  What symbols are, as numbers: the first ones are the text; sums of texts have sums of symbols.
-/
namespace Go.Proofs.Ythlidbenhlidjaa
open Go.RowKit Go.Deep

theorem one_mul {a : Nat} (h : a < 256) : Gf.mul 1 a = a := by rw [Gf.mul_comm, Gf.mul_one a h]
theorem mixTo_succ (R : Nat → Nat) (Z : Nat → Nat → Nat) (t j : Nat) : mixTo R Z (t + 1) j = mixTo R Z t j ^^^ Gf.mul (R t) (Z t j) := rfl
theorem mixTo_zero (R : Nat → Nat) (Z : Nat → Nat → Nat) (t j : Nat) (h : ∀ i, i < t → R i = 0) : mixTo R Z t j = 0 := by
  induction t with
  | zero => rfl
  | succ t ih => rw [mixTo_succ, ih (fun i hi => h i (by omega)), h t (by omega), Gf.zero_mul]; rfl
theorem mixTo_unit (Z : Nat → Nat → Nat) (i t j : Nat) (hi : i < t) (hz : Z i j < 256) : mixTo (fun l => if l = i then 1 else 0) Z t j = Z i j := by
  induction t with
  | zero => omega
  | succ t ih =>
    rw [mixTo_succ]
    by_cases e : t = i
    · subst e
      rw [mixTo_zero _ _ _ _ (fun l hl => if_neg (by omega)), if_pos rfl, one_mul hz, Nat.zero_xor]
    · rw [ih (by omega), if_neg e, Gf.zero_mul, Nat.xor_zero]
theorem mixTo_xor (R : Nat → Nat) (Z Y X : Nat → Nat → Nat) (t j : Nat) (hR : ∀ i, i < t → R i < 256) (hz : ∀ i, i < t → Z i j < 256) (hy : ∀ i, i < t → Y i j < 256) (hx : ∀ i, i < t → X i j = Z i j ^^^ Y i j) :
    mixTo R Z t j ^^^ mixTo R Y t j = mixTo R X t j := by
  induction t with
  | zero => exact Nat.xor_self 0
  | succ t ih =>
    rw [mixTo_succ, mixTo_succ, mixTo_succ, ← ih (fun i hi => hR i (by omega)) (fun i hi => hz i (by omega)) (fun i hi => hy i (by omega)) (fun i hi => hx i (by omega)), hx t (by omega),
      Gf.mul_xor _ _ _ (hR t (by omega)) (hz t (by omega)) (hy t (by omega)), Gf.xor4]
theorem mixTo_lt (R : Nat → Nat) (Z : Nat → Nat → Nat) (t j : Nat) : mixTo R Z t j < 256 := by
  induction t with
  | zero => show 0 < 256; decide
  | succ t ih => exact Gf.xor_lt _ _ ih (Gf.mul_lt _ _)
theorem mixTo_congr (R R' : Nat → Nat) (Z Z' : Nat → Nat → Nat) (t j : Nat) (h : ∀ i, i < t → R i = R' i) (hz : ∀ i, i < t → Z i j = Z' i j) : mixTo R Z t j = mixTo R' Z' t j := by
  induction t with
  | zero => rfl
  | succ t ih => rw [mixTo_succ, mixTo_succ, ih (fun i hi => h i (by omega)) (fun i hi => hz i (by omega)), h t (by omega), hz t (by omega)]

theorem cnt_pos {n s : Nat} (s1 : 1 ≤ s) (n1 : 1 ≤ n) : 1 ≤ cntOf n s := by
  unfold cntOf
  exact (Nat.le_div_iff_mul_le (by omega)).2 (by omega)
theorem cnt_ge' (n s : Nat) (s1 : 1 ≤ s) : n ≤ cntOf n s * s := by
  unfold cntOf
  have h1 := Nat.div_add_mod (n + s - 1) s
  have h2 := Nat.mod_lt (n + s - 1) (show s > 0 by omega)
  rw [Nat.mul_comm] at h1
  omega
theorem symOf_lt (f : Nat) (x : Nat → Nat) (n s id j : Nat) : symOf f x n s id j < 256 := mixTo_lt _ _ _ _
theorem symOf_first (f : Nat) (x : Nat → Nat) (n s i j : Nat) (hx : ∀ i, i < n → x i < 256) (h : i < cntOf n s) : symOf f x n s i j = piece x n s i j := by
  unfold symOf
  rw [← rowOf_unit h]
  exact mixTo_unit _ _ _ _ h (piece_lt hx j)
theorem symOf_xor (f : Nat) (x y z : Nat → Nat) (n s id j : Nat) (hr : ∀ i, i < cntOf n s → Dice.rowOf f id (cntOf n s) i < 256) (hx : ∀ i, i < n → x i < 256) (hy : ∀ i, i < n → y i < 256) (hz : ∀ i, i < n → z i = x i ^^^ y i) :
    symOf f x n s id j ^^^ symOf f y n s id j = symOf f z n s id j := by
  refine mixTo_xor _ _ _ _ _ _ hr (fun i _ => piece_lt hx j) (fun i _ => piece_lt hy j) fun i _ => ?_
  unfold piece
  split
  · exact hz _ (by assumption)
  · rfl
end Go.Proofs.Ythlidbenhlidjaa

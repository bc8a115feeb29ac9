/-
  Frames out of numbers: choices.
-/
import Derived.Test.YthlidbenhlidjaaFrm
namespace Go.Proofs.Ythlidbenhlidjaa
open Go.RowKit Go.Deep

/-- The block P holds choices: the row of numbers (a, n, c), the next one's place p. -/
structure PkAt12 (w : World) (P : Nat) (a : Option Addr) (n c p : Nat) : Prop where
  c0 : w.cell? ⟨P, 0, none⟩ = some (.slice a n c)
  c1 : w.cell? ⟨P, 1, none⟩ = some (.int .i64 (p : Int))
  frz : ∀ i, w.frozen? ⟨P, i, none⟩ = false
/-- The numbers lie elsewhere, and all of it ahead of block D. -/
def Picks (D : Nat) (w : World) (P p : Nat) : Prop :=
  ∃ a n c x, PkAt12 w P a n c p ∧ BytesAt w a n x ∧ n ≤ 1000 ∧ p ≤ n ∧ P < D ∧ (0 < n → ∀ b o, a = some ⟨b, o, none⟩ → b ≠ P ∧ b < D)
theorem PkAt12.lt {w : World} {P : Nat} {a : Option Addr} {n c p : Nat} (h : PkAt12 w P a n c p) : P < w.heap.size := cell_lt h.c0
theorem PkAt12.block {w w' : World} {P : Nat} {a : Option Addr} {n c p : Nat} (h : PkAt12 w P a n c p) (hb : w'.heap[P]? = w.heap[P]?) : PkAt12 w' P a n c p :=
  ⟨(World.cell?_of_block (a := ⟨P, 0, none⟩) hb).trans h.c0, (World.cell?_of_block (a := ⟨P, 1, none⟩) hb).trans h.c1, fun i => (World.frozen?_of_block (a := ⟨P, i, none⟩) hb).trans (h.frz i)⟩
theorem Picks.block {D : Nat} {w w' : World} {P p : Nat} (h : Picks D w P p) (hb : ∀ k, k < D → k < w.heap.size → w'.heap[k]? = w.heap[k]?) : Picks D w' P p := by
  obtain ⟨a, n, c, x, h1, h2, h3, h4, h5, h6⟩ := h
  refine ⟨a, n, c, x, h1.block (hb P h5 h1.lt), ⟨fun h0 => ?_, h2.lt⟩, h3, h4, h5, h6⟩
  obtain ⟨b, o, rfl, hc⟩ := h2.cells h0
  have hl := hb b (h6 h0 b o rfl).2 (cell_lt (hc 0 h0))
  exact ⟨b, o, rfl, fun i hi => (World.cell?_of_block (a := ⟨b, o + i, none⟩) hl).trans (hc i hi)⟩
theorem Picks.grew {D : Nat} {w w' : World} {P p : Nat} (h : Picks D w P p) (hb : Below w.heap.size w w') : Picks D w' P p := h.block fun k _ hk => hb.block k hk
theorem Picks.below {D : Nat} {w w' : World} {P p : Nat} (h : Picks D w P p) (hb : Below D w w') : Picks D w' P p := h.block fun k hk _ => hb.block k hk
theorem Picks.lt {D : Nat} {w : World} {P p : Nat} (h : Picks D w P p) : P < w.heap.size ∧ P < D := by
  obtain ⟨a, n, c, x, h1, h2, h3, h4, h5, h6⟩ := h
  exact ⟨h1.lt, h5⟩
/-- All but block P stays, and P holds choices still. -/
structure Chose (D P : Nat) (w w' : World) : Prop where
  kept : Kept P w w'
  picks : ∃ p, Picks D w' P p
theorem Chose.trans {D P : Nat} {a b c : World} (h : Chose D P a b) (k : Chose D P b c) : Chose D P a c := ⟨h.kept.trans k.kept, k.picks⟩
theorem Chose.grew {D P : Nat} {a b c : World} (h : Chose D P a b) (hb : Below b.heap.size b c) : Chose D P a c := by
  obtain ⟨p, hp⟩ := h.picks
  exact ⟨h.kept.trans (Kept.of_below hb), p, hp.grew hb⟩
theorem Kept.setNew {R : Nat} {w w' : World} (h : Kept R w w') {g i : Nat} (hg : w.heap.size ≤ g) (v : Value) : Kept R w (w'.setCell ⟨g, i, none⟩ v) :=
  ⟨h.os, h.tape, h.output, by simpa [World.setCell] using h.size, fun k hk hR => (Below.heap_setCell w' ⟨g, i, none⟩ v k (by show k ≠ g; omega)).trans (h.block k hk hR)⟩
theorem Picks.setNew {D : Nat} {w : World} {P p g i : Nat} (h : Picks D w P p) (hg : D ≤ g) (v : Value) : Picks D (w.setCell ⟨g, i, none⟩ v) P p :=
  h.block fun k hk _ => Below.heap_setCell w ⟨g, i, none⟩ v k (by show k ≠ g; omega)
theorem Chose.setNew {D P : Nat} {w w' : World} (h : Chose D P w w') {g i : Nat} (hg : w.heap.size ≤ g) (hD : D ≤ g) (v : Value) : Chose D P w (w'.setCell ⟨g, i, none⟩ v) := by
  obtain ⟨p, hp⟩ := h.picks
  exact ⟨h.kept.setNew hg v, p, hp.setNew hD v⟩
/-- A choice below m. -/
def NumPk (D P : Nat) (m : Int) (w : World) (e : Ending) (w' : World) : Prop := Chose D P w w' ∧ ∃ v : Nat, e = .returned (.int .i64 (v : Int)) ∧ (v : Int) < m

theorem PkAt12.next {w : World} {P : Nat} {a : Option Addr} {n c p : Nat} (h : PkAt12 w P a n c p) : PkAt12 (w.setCell ⟨P, 1, none⟩ (.int .i64 ((p : Int) + 1))) P a n c (p + 1) :=
  ⟨(World.cell?_setCell_other _ _ _ _ (by simp)).trans h.c0, World.cell?_setCell_same _ _ _ h.c1, fun i => by rw [World.frozen?_setCell]; exact h.frz i⟩
theorem BytesAt.keptNe {w w' : World} {b o n R : Nat} {x : Nat → Nat} (h : BytesAt w (some ⟨b, o, none⟩) n x) (hk : Kept R w w') (hR : b ≠ R) : BytesAt w' (some ⟨b, o, none⟩) n x :=
  ⟨fun _ => ⟨b, o, rfl, fun i hi => hk.cell (bytes_cell h i hi) hR⟩, h.lt⟩

set_option maxRecDepth 100000 in
set_option maxHeartbeats 1000000 in
theorem num_pk (D P p m : Nat) (w : World) (h : Picks D w P p) (hm : 0 < m) (hm2 : m ≤ 1000000) :
    Calls Try.prog 23 #[.pointer (some ⟨P, 0, none⟩), .int .i64 (m : Int)] w (NumPk D P m w) := by
  have HH : Hid (Picks D w P p) := h
  obtain ⟨a, n, c, x, h1, h2, h3, h4, h5, h6⟩ := h
  by_cases hp : p < n
  · obtain ⟨b, o, rfl, hc⟩ := h2.cells (by omega)
    have hx := h2.lt p hp
    have hne := (h6 (by omega) b o rfl).1
    have i1 : ¬ n ≤ p := by omega
    have K1 : Kept P w (w.setCell ⟨P, 1, none⟩ (.int .i64 ((p : Int) + 1))).drew := (Kept.set w 1 _).trans (Kept.of_below (Below.refl _ _).drew)
    have N1 : PkAt12 (w.setCell ⟨P, 1, none⟩ (.int .i64 ((p : Int) + 1))).drew P (some ⟨b, o, none⟩) n c (p + 1) := (h1.next).block rfl
    have X1 := h2.keptNe K1 hne
    have HK : Hid (Chose D P w ((w.setCell ⟨P, 1, none⟩ (.int .i64 ((p : Int) + 1))).drew.drew)) := ⟨K1.trans (Kept.of_below (Below.refl _ _).drew), ⟨p + 1, _, n, c, x, N1.block rfl, X1.grew (Below.refl _ _).drew, h3, by omega, h5, h6⟩⟩
    have d0 := N1.c0
    have d1 : (w.setCell ⟨P, 1, none⟩ (.int .i64 ((p : Int) + 1))).drew.cell? ⟨P, 1, none⟩ = some (.int .i64 ((p : Int) + 1)) := N1.c1
    have dx := bytes_cell X1 p hp
    obtain ⟨c0, c1, hz⟩ := h1
    have z1 := hz 1
    have i2 : (p : Int) < (n : Int) := by omega
    have hm' : ¬ (m : Int) = 0 := by omega
    clear h2 hc hz h6 K1 N1 X1 h4 hp
    go_enter Try.func23, Try.ntmps23
    go_wp2_with fail
    go_region
    go_wp2_with fail
    generalize (w.setCell ⟨P, 1, none⟩ (.int .i64 ((p : Int) + 1))).drew = w1 at *
    generalize x p = v at *
    clear c0 c1 z1
    go_region
    go_wp2
    go_ret
    exact ⟨HK.out, v % m, rfl, by have := Nat.mod_lt v hm; omega⟩
  · have i1 : n ≤ p := by omega
    have HC : Hid (Chose D P w w.drew) := ⟨Kept.of_below (Below.refl _ _).drew, p, HH.out.grew (Below.refl _ _).drew⟩
    obtain ⟨c0, c1, -⟩ := h1
    clear h2 h6 hp
    go_enter Try.func23, Try.ntmps23
    go_wp2_with fail
    go_region
    go_wp2
    go_ret
    exact ⟨HC.out, 0, rfl, by omega⟩

theorem made_any (a : Option Addr) (n c : Nat) (x : Nat → Nat) (w : World) (h : BytesAt w a n x) (hn : n ≤ 1000) :
    Calls Try.prog 13 #[.slice a n c] w fun e w' => e = .returned (.pointer (some ⟨w.heap.size, 0, none⟩)) ∧ Below w.heap.size w w' ∧ w'.heap.size = w.heap.size + 1 ∧ Picks (w.heap.size + 1) w' w.heap.size 0 := by
  have b1 : Below w.heap.size w (w.alloc (.cells #[.slice a n c, .int .i64 0] 66)) := (Below.refl _ _).alloc (Nat.le_refl _) _
  have hp : PkAt12 (w.alloc (.cells #[.slice a n c, .int .i64 0] 66)) w.heap.size a n c 0 :=
    ⟨by rw [World.cell?_alloc_at _ _ _ _ rfl]; rfl, by rw [World.cell?_alloc_at _ _ _ _ rfl]; rfl, fun i => by rw [World.frozen?_alloc_at _ _ _ _ rfl]⟩
  have HA : Hid (Below w.heap.size w (w.alloc (.cells #[.slice a n c, .int .i64 0] 66)) ∧ (w.alloc (.cells #[.slice a n c, .int .i64 0] 66)).heap.size = w.heap.size + 1 ∧ Picks (w.heap.size + 1) (w.alloc (.cells #[.slice a n c, .int .i64 0] 66)) w.heap.size 0) :=
    ⟨b1, by simp, a, n, c, x, hp, h.grew b1, hn, Nat.zero_le _, Nat.lt_succ_self _, fun h0 b o e => by
      obtain ⟨b', o', e', hc⟩ := h.cells h0
      rw [e] at e'
      cases e'
      have := cell_lt (hc 0 h0)
      omega⟩
  clear b1 hp h
  go_enter Try.func13, Try.ntmps13
  go_wp2
  go_ret
  exact ⟨rfl, HA.out⟩

theorem make_u8s (m : Nat) (w : World) (hm : m ≤ 1000) : (Instr.makeSlice 26 (.int .i64 (m : Int)) (.int .i64 (m : Int))).run Try.prog w = .ok (.slice (some ⟨w.heap.size, 0, none⟩) m m) (w.alloc (.cells (madeCells #[.int .u8 0] m) 5)) := by
  obtain ⟨i0, hi, hz0, hz1, hz2⟩ := info_parts Try.infoByte
  have := run_makeSlice (P := Try.prog) w 26 5 i0 _ Try.underlying26 hi hz0 .i64 .i64 (m : Int) (m : Int) (by omega) (Int.le_refl _) (by rw [hz1]; simp; omega) (by rw [hz2]; omega) (by omega)
  rw [hz1] at this
  simpa [Value.cells] using this
/-- A row of bytes of the call's own, whatever they are. -/
def BodyIs (D P : Nat) (n : Nat) (w : World) (e : Ending) (w' : World) : Prop := Chose D P w w' ∧ ∃ v xs, e = .returned v ∧ w'.ownsRow w.heap.size 5 1 v n xs
set_option maxRecDepth 100000 in
set_option maxHeartbeats 1000000 in
theorem body_any (D P p n : Nat) (w : World) (h : Picks D w P p) (hD : D ≤ w.heap.size) (hn : n ≤ 1000) :
    Calls Try.prog 15 #[.pointer (some ⟨P, 0, none⟩), .int .i64 (n : Int)] w (BodyIs D P n w) := by
  have B1 := (Below.refl w.heap.size w).alloc (Nat.le_refl _) (.cells (madeCells #[.int .u8 0] n) 5)
  have HC : Hid (Chose D P w (w.alloc (.cells (madeCells #[.int .u8 0] n) 5))) := ⟨Kept.of_below B1, p, h.grew B1⟩
  have HR : Hid (∃ f, (w.alloc (.cells (madeCells #[.int .u8 0] n) 5)).rowIs w.heap.size 5 n f) := ⟨_, World.rowIs_made w (.int .u8 0) n 5⟩
  have lP := h.lt
  have hmk := fun W => make_u8s n W hn
  have HP : Hid (P ≠ w.heap.size) := by show P ≠ w.heap.size; omega
  clear B1 h
  go_enter Try.func15, Try.ntmps15
  go_wp2_with fail
  generalize w.alloc (.cells (madeCells #[.int .u8 0] n) 5) = w1 at *
  go_loopw [6] (fun i wr => ∃ k : Nat, k ≤ n ∧ i = .int .i64 k ∧ Hid (Chose D P w wr) ∧ Hid (∃ f, wr.rowIs w.heap.size 5 n f)) (fun i _ => n - (intOf i).toNat)
  case atStart => exact ⟨0, Nat.zero_le _, rfl, HC, HR⟩
  case round =>
    clear HC HR
    obtain ⟨k, hk, rfl, hc, hr⟩ := hrel
    by_cases hkn : k < n
    · have i1 : (k : Int) < (n : Int) := by omega
      obtain ⟨p', hp⟩ := hc.out.picks
      go_wp2_with fail
      refine (num_pk D P p' 256 _ hp (by decide) (by decide)).mono ?_
      rintro e w2 ⟨c2, v, rfl, hv⟩
      obtain ⟨f, hf⟩ := hr.out
      have hf := hf.of_block (c2.kept.block w.heap.size hf.lt (Ne.symm HP.out))
      have q0 := hf.cell (i := k) hkn
      have q1 := hf.frozen k
      have hc2 := hc.out.trans c2
      have HC : Hid (∀ v, Chose D P w (w2.setCell ⟨w.heap.size, k, none⟩ v)) := fun v => hc2.setNew (Nat.le_refl _) hD v
      have HR : Hid (∀ v, ∃ f, (w2.setCell ⟨w.heap.size, k, none⟩ v).rowIs w.heap.size 5 n f) := fun v => ⟨_, hf.set k v⟩
      clear hf hc2 c2 hc hr hp
      go_wp2_with fail
      go_roundw
      case rel => exact ⟨k + 1, by omega, by go_num, HC.out _, HR.out _⟩
      case measure => simp [intOf]; omega
    · obtain rfl : k = n := by omega
      go_wp2
      go_ret
      obtain ⟨f, cs, h1, h2, h3⟩ := hr.out
      refine ⟨hc.out, _, cs.toList, rfl, by simp [h2], .inr ⟨w.heap.size, k, cs, rfl, Nat.le_refl _, h1, Nat.le_refl _, by unfold maxLen; omega, by rw [h2, Nat.mul_one], ?_⟩⟩
      rw [Nat.mul_one, List.take_of_length_le (by simp [h2])]
end Go.Proofs.Ythlidbenhlidjaa

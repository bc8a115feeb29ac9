/-
  Several texts, one behind the other.
-/
import Derived.Test.YthlidbenhlidjaaKbg
import Derived.Test.YthlidbenhlidjaaJ7
import Derived.Test.YthlidbenhlidjaaJ5
import Derived.Test.YthlidbenhlidjaaJ2
/-
  What Packets answers, for two that answer alike.
-/
namespace Go.Proofs.Ythlidbenhlidjaa
open Go.RowKit Go.Deep

/-- N packets lie at r. -/
structure Pks (w : World) (N q t f n s : Nat) (x : Nat → Nat) (z : Nat → Int) (r : Option Addr) (K : Nat → Dt) : Prop where
  row : DsAt w r N K
  told : Told15 N q t f s z K
  body : ∀ i, i < N → BytesAt w (K i).a (K i).n (symOf f x n s (z i).toNat)
theorem Pks.grew {w w' : World} {N q t f n s : Nat} {x : Nat → Nat} {z : Nat → Int} {r : Option Addr} {K : Nat → Dt} (h : Pks w N q t f n s x z r K) (hb : Below w.heap.size w w') : Pks w' N q t f n s x z r K :=
  ⟨h.row.grew hb, h.told, fun i hi => (h.body i hi).grew hb⟩
theorem Pks.addr {w : World} {N q t f n s : Nat} {x : Nat → Nat} {z : Nat → Int} {r : Option Addr} {K : Nat → Dt} (h : Pks w N q t f n s x z r K) (h0 : 0 < N) : ∃ b o, r = some ⟨b, o, none⟩ := h.row.addr h0
theorem Pks.at {w : World} {N q t f n s b o : Nat} {x : Nat → Nat} {z : Nat → Int} {K : Nat → Dt} (h : Pks w N q t f n s x z (some ⟨b, o, none⟩) K) (i : Nat) (hi : i < N) :
    ∃ a c, w.cell? ⟨b, o + i * 5, none⟩ = some (.int .u16 (((q + i) % 65536 : Nat) : Int)) ∧ w.cell? ⟨b, o + i * 5 + 1, none⟩ = some (.int .u16 (t : Int)) ∧ w.cell? ⟨b, o + i * 5 + 2, none⟩ = some (.int .u32 (f : Int)) ∧
      w.cell? ⟨b, o + i * 5 + 3, none⟩ = some (.int .u16 ((z i).toNat : Int)) ∧ w.cell? ⟨b, o + i * 5 + 4, none⟩ = some (.slice a s c) ∧ BytesAt w a s (symOf f x n s (z i).toNat) := by
  obtain ⟨h0, h1, h2, h3, h4⟩ := h.row.at i hi
  obtain ⟨t0, t1, t2, t3, t4⟩ := h.told i hi
  have hb := h.body i hi
  rw [t0] at h0
  rw [t1] at h1
  rw [t2] at h2
  rw [t3] at h3
  rw [t4] at h4 hb
  exact ⟨_, _, h0, h1, h2, h3, h4, hb⟩
/-- Whoever answers so answers alike. -/
theorem packs_any (b : Bool) (m n : Nat) (size s : Int) (z : Nat → Int) : ∃ (p : Bool) (N : Nat), N ≤ m ∧ (size = (n : Int) ∧ Fit b n s z m → p = true ∧ N = m) ∧
    ∀ (w : World) (q t f : Nat) (x : Nat → Nat) (e : Ending) (w' : World), PacksIs w b m q t f n size s x z e w' →
      ∃ r cap K, e = .returned (.tuple #[.slice r N cap, .bool p]) ∧ Pks w' N q t f n s.toNat x z r K ∧ Below w.heap.size w w' := by
  by_cases h : size = (n : Int) ∧ Fit b n s z m
  · refine ⟨true, m, Nat.le_refl _, fun _ => ⟨rfl, rfl⟩, fun w q t f x e w' hp => ?_⟩
    obtain ⟨v, K, rfl, hd, ht, hb⟩ := hp.yes h.1 h.2
    obtain ⟨r, cap, rfl, hr, -⟩ := hd.row.any
    exact ⟨r, cap, K, rfl, ⟨hr, ht, fun i hi => (hd.body i hi).bs⟩, hb⟩
  · refine ⟨false, 0, Nat.zero_le _, fun hh => absurd hh h, fun w q t f x e w' hp => ?_⟩
    obtain ⟨rfl, hb⟩ := hp.no h
    exact ⟨none, 0, fun _ => ⟨0, 0, 0, 0, none, 0, 0⟩, rfl, ⟨DsAt.nil _ _, Told15.nil _ _ _ _ _ _, fun i hi => absurd hi (Nat.not_lt_zero i)⟩, hb⟩
theorem FrAt.resize {w : World} {B : Nat} {f : Fr} (h : FrAt w B f) (s : Int) : FrAt (w.setCell ⟨B, 3, none⟩ (.int .i64 s)) B { f with s := s } :=
  ⟨(World.cell?_setCell_other _ _ _ _ (by simp)).trans h.c0, (World.cell?_setCell_other _ _ _ _ (by simp)).trans h.c1, (World.cell?_setCell_other _ _ _ _ (by simp)).trans h.c2, World.cell?_setCell_same _ _ _ h.c3, (World.cell?_setCell_other _ _ _ _ (by simp)).trans h.c4, (World.cell?_setCell_other _ _ _ _ (by simp)).trans h.c5, fun q => by rw [World.frozen?_setCell]; exact h.frz q⟩
theorem rpackets_is (F : Fr) (v : Value) (a : Option Addr) (n c : Nat) (s : Int) (ia : Option Addr) (m ic q t : Nat) (z : Nat → Int) (x : Nat → Nat) (w : World) (hv : v = F.val) (hx : BytesAt w a n x) (hz : IntsAt w ia m z) (hm : m ≤ 1000) (hf : F.id < 4294967296) (hq : q < 65536) :
    Calls Try.prog 10 #[v, .slice a n c, .int .i64 s, .slice ia m ic, .int .u16 (q : Int), .int .u16 (t : Int)] w (PacksIs w true m q t F.id n F.s s x z) := by
  subst hv
  exact rpackets_any F a n c s ia m ic q t z x w hx hz hm hf hq
end Go.Proofs.Ythlidbenhlidjaa

/-
  Frames out of numbers: choices.
-/
namespace Go.Proofs.Ythlidbenhlidjaa
open Go.RowKit Go.Deep

/-- The block P holds choices: the row of numbers (a, n, c), the next one's place p. -/
structure PkAt12 (w : World) (P : Nat) (a : Option Addr) (n c p : Nat) : Prop where
  c0 : w.cell? ⟨P, 0, none⟩ = some (.slice a n c)
  c1 : w.cell? ⟨P, 1, none⟩ = some (.int .i64 (p : Int))
  frz : ∀ i, w.frozen? ⟨P, i, none⟩ = false
/-- The numbers lie elsewhere, and all of it ahead of block D. -/
def Picks (D : Nat) (w : World) (P p : Nat) : Prop :=
  ∃ a n c x, PkAt12 w P a n c p ∧ BytesAt w a n x ∧ n ≤ 1000 ∧ p ≤ n ∧ P < D ∧ (0 < n → ∀ b o, a = some ⟨b, o, none⟩ → b ≠ P ∧ b < D)
theorem PkAt12.lt {w : World} {P : Nat} {a : Option Addr} {n c p : Nat} (h : PkAt12 w P a n c p) : P < w.heap.size := cell_lt h.c0
theorem PkAt12.block {w w' : World} {P : Nat} {a : Option Addr} {n c p : Nat} (h : PkAt12 w P a n c p) (hb : w'.heap[P]? = w.heap[P]?) : PkAt12 w' P a n c p :=
  ⟨(World.cell?_of_block (a := ⟨P, 0, none⟩) hb).trans h.c0, (World.cell?_of_block (a := ⟨P, 1, none⟩) hb).trans h.c1, fun i => (World.frozen?_of_block (a := ⟨P, i, none⟩) hb).trans (h.frz i)⟩
theorem Picks.block {D : Nat} {w w' : World} {P p : Nat} (h : Picks D w P p) (hb : ∀ k, k < D → k < w.heap.size → w'.heap[k]? = w.heap[k]?) : Picks D w' P p := by
  obtain ⟨a, n, c, x, h1, h2, h3, h4, h5, h6⟩ := h
  refine ⟨a, n, c, x, h1.block (hb P h5 h1.lt), ⟨fun h0 => ?_, h2.lt⟩, h3, h4, h5, h6⟩
  obtain ⟨b, o, rfl, hc⟩ := h2.cells h0
  have hl := hb b (h6 h0 b o rfl).2 (cell_lt (hc 0 h0))
  exact ⟨b, o, rfl, fun i hi => (World.cell?_of_block (a := ⟨b, o + i, none⟩) hl).trans (hc i hi)⟩
theorem Picks.grew {D : Nat} {w w' : World} {P p : Nat} (h : Picks D w P p) (hb : Below w.heap.size w w') : Picks D w' P p := h.block fun k _ hk => hb.block k hk
theorem Picks.below {D : Nat} {w w' : World} {P p : Nat} (h : Picks D w P p) (hb : Below D w w') : Picks D w' P p := h.block fun k hk _ => hb.block k hk
theorem Picks.lt {D : Nat} {w : World} {P p : Nat} (h : Picks D w P p) : P < w.heap.size ∧ P < D := by
  obtain ⟨a, n, c, x, h1, h2, h3, h4, h5, h6⟩ := h
  exact ⟨h1.lt, h5⟩
/-- All but block P stays, and P holds choices still. -/
structure Chose (D P : Nat) (w w' : World) : Prop where
  kept : Kept P w w'
  picks : ∃ p, Picks D w' P p
theorem Chose.trans {D P : Nat} {a b c : World} (h : Chose D P a b) (k : Chose D P b c) : Chose D P a c := ⟨h.kept.trans k.kept, k.picks⟩
theorem Chose.grew {D P : Nat} {a b c : World} (h : Chose D P a b) (hb : Below b.heap.size b c) : Chose D P a c := by
  obtain ⟨p, hp⟩ := h.picks
  exact ⟨h.kept.trans (Kept.of_below hb), p, hp.grew hb⟩
theorem Kept.setNew {R : Nat} {w w' : World} (h : Kept R w w') {g i : Nat} (hg : w.heap.size ≤ g) (v : Value) : Kept R w (w'.setCell ⟨g, i, none⟩ v) :=
  ⟨h.os, h.tape, h.output, by simpa [World.setCell] using h.size, fun k hk hR => (Below.heap_setCell w' ⟨g, i, none⟩ v k (by show k ≠ g; omega)).trans (h.block k hk hR)⟩
theorem Picks.setNew {D : Nat} {w : World} {P p g i : Nat} (h : Picks D w P p) (hg : D ≤ g) (v : Value) : Picks D (w.setCell ⟨g, i, none⟩ v) P p :=
  h.block fun k hk _ => Below.heap_setCell w ⟨g, i, none⟩ v k (by show k ≠ g; omega)
theorem Chose.setNew {D P : Nat} {w w' : World} (h : Chose D P w w') {g i : Nat} (hg : w.heap.size ≤ g) (hD : D ≤ g) (v : Value) : Chose D P w (w'.setCell ⟨g, i, none⟩ v) := by
  obtain ⟨p, hp⟩ := h.picks
  exact ⟨h.kept.setNew hg v, p, hp.setNew hD v⟩
/-- A choice below m. -/
def NumPk (D P : Nat) (m : Int) (w : World) (e : Ending) (w' : World) : Prop := Chose D P w w' ∧ ∃ v : Nat, e = .returned (.int .i64 (v : Int)) ∧ (v : Int) < m

theorem PkAt12.next {w : World} {P : Nat} {a : Option Addr} {n c p : Nat} (h : PkAt12 w P a n c p) : PkAt12 (w.setCell ⟨P, 1, none⟩ (.int .i64 ((p : Int) + 1))) P a n c (p + 1) :=
  ⟨(World.cell?_setCell_other _ _ _ _ (by simp)).trans h.c0, World.cell?_setCell_same _ _ _ h.c1, fun i => by rw [World.frozen?_setCell]; exact h.frz i⟩
theorem BytesAt.keptNe {w w' : World} {b o n R : Nat} {x : Nat → Nat} (h : BytesAt w (some ⟨b, o, none⟩) n x) (hk : Kept R w w') (hR : b ≠ R) : BytesAt w' (some ⟨b, o, none⟩) n x :=
  ⟨fun _ => ⟨b, o, rfl, fun i hi => hk.cell (bytes_cell h i hi) hR⟩, h.lt⟩

set_option maxRecDepth 100000 in
set_option maxHeartbeats 1000000 in
theorem num_pk (D P p m : Nat) (w : World) (h : Picks D w P p) (hm : 0 < m) (hm2 : m ≤ 1000000) :
    Calls Try.prog 23 #[.pointer (some ⟨P, 0, none⟩), .int .i64 (m : Int)] w (NumPk D P m w) := by
  have HH : Hid (Picks D w P p) := h
  obtain ⟨a, n, c, x, h1, h2, h3, h4, h5, h6⟩ := h
  by_cases hp : p < n
  · obtain ⟨b, o, rfl, hc⟩ := h2.cells (by omega)
    have hx := h2.lt p hp
    have hne := (h6 (by omega) b o rfl).1
    have i1 : ¬ n ≤ p := by omega
    have K1 : Kept P w (w.setCell ⟨P, 1, none⟩ (.int .i64 ((p : Int) + 1))).drew := (Kept.set w 1 _).trans (Kept.of_below (Below.refl _ _).drew)
    have N1 : PkAt12 (w.setCell ⟨P, 1, none⟩ (.int .i64 ((p : Int) + 1))).drew P (some ⟨b, o, none⟩) n c (p + 1) := (h1.next).block rfl
    have X1 := h2.keptNe K1 hne
    have HK : Hid (Chose D P w ((w.setCell ⟨P, 1, none⟩ (.int .i64 ((p : Int) + 1))).drew.drew)) := ⟨K1.trans (Kept.of_below (Below.refl _ _).drew), ⟨p + 1, _, n, c, x, N1.block rfl, X1.grew (Below.refl _ _).drew, h3, by omega, h5, h6⟩⟩
    have d0 := N1.c0
    have d1 : (w.setCell ⟨P, 1, none⟩ (.int .i64 ((p : Int) + 1))).drew.cell? ⟨P, 1, none⟩ = some (.int .i64 ((p : Int) + 1)) := N1.c1
    have dx := bytes_cell X1 p hp
    obtain ⟨c0, c1, hz⟩ := h1
    have z1 := hz 1
    have i2 : (p : Int) < (n : Int) := by omega
    have hm' : ¬ (m : Int) = 0 := by omega
    clear h2 hc hz h6 K1 N1 X1 h4 hp
    go_enter Try.func23, Try.ntmps23
    go_wp2_with fail
    go_region
    go_wp2_with fail
    generalize (w.setCell ⟨P, 1, none⟩ (.int .i64 ((p : Int) + 1))).drew = w1 at *
    generalize x p = v at *
    clear c0 c1 z1
    go_region
    go_wp2
    go_ret
    exact ⟨HK.out, v % m, rfl, by have := Nat.mod_lt v hm; omega⟩
  · have i1 : n ≤ p := by omega
    have HC : Hid (Chose D P w w.drew) := ⟨Kept.of_below (Below.refl _ _).drew, p, HH.out.grew (Below.refl _ _).drew⟩
    obtain ⟨c0, c1, -⟩ := h1
    clear h2 h6 hp
    go_enter Try.func23, Try.ntmps23
    go_wp2_with fail
    go_region
    go_wp2
    go_ret
    exact ⟨HC.out, 0, rfl, by omega⟩

theorem made_any (a : Option Addr) (n c : Nat) (x : Nat → Nat) (w : World) (h : BytesAt w a n x) (hn : n ≤ 1000) :
    Calls Try.prog 13 #[.slice a n c] w fun e w' => e = .returned (.pointer (some ⟨w.heap.size, 0, none⟩)) ∧ Below w.heap.size w w' ∧ w'.heap.size = w.heap.size + 1 ∧ Picks (w.heap.size + 1) w' w.heap.size 0 := by
  have b1 : Below w.heap.size w (w.alloc (.cells #[.slice a n c, .int .i64 0] 66)) := (Below.refl _ _).alloc (Nat.le_refl _) _
  have hp : PkAt12 (w.alloc (.cells #[.slice a n c, .int .i64 0] 66)) w.heap.size a n c 0 :=
    ⟨by rw [World.cell?_alloc_at _ _ _ _ rfl]; rfl, by rw [World.cell?_alloc_at _ _ _ _ rfl]; rfl, fun i => by rw [World.frozen?_alloc_at _ _ _ _ rfl]⟩
  have HA : Hid (Below w.heap.size w (w.alloc (.cells #[.slice a n c, .int .i64 0] 66)) ∧ (w.alloc (.cells #[.slice a n c, .int .i64 0] 66)).heap.size = w.heap.size + 1 ∧ Picks (w.heap.size + 1) (w.alloc (.cells #[.slice a n c, .int .i64 0] 66)) w.heap.size 0) :=
    ⟨b1, by simp, a, n, c, x, hp, h.grew b1, hn, Nat.zero_le _, Nat.lt_succ_self _, fun h0 b o e => by
      obtain ⟨b', o', e', hc⟩ := h.cells h0
      rw [e] at e'
      cases e'
      have := cell_lt (hc 0 h0)
      omega⟩
  clear b1 hp h
  go_enter Try.func13, Try.ntmps13
  go_wp2
  go_ret
  exact ⟨rfl, HA.out⟩

theorem make_u8s (m : Nat) (w : World) (hm : m ≤ 1000) : (Instr.makeSlice 26 (.int .i64 (m : Int)) (.int .i64 (m : Int))).run Try.prog w = .ok (.slice (some ⟨w.heap.size, 0, none⟩) m m) (w.alloc (.cells (madeCells #[.int .u8 0] m) 5)) := by
  obtain ⟨i0, hi, hz0, hz1, hz2⟩ := info_parts Try.infoByte
  have := run_makeSlice (P := Try.prog) w 26 5 i0 _ Try.underlying26 hi hz0 .i64 .i64 (m : Int) (m : Int) (by omega) (Int.le_refl _) (by rw [hz1]; simp; omega) (by rw [hz2]; omega) (by omega)
  rw [hz1] at this
  simpa [Value.cells] using this
/-- A row of bytes of the call's own, whatever they are. -/
def BodyIs (D P : Nat) (n : Nat) (w : World) (e : Ending) (w' : World) : Prop := Chose D P w w' ∧ ∃ v xs, e = .returned v ∧ w'.ownsRow w.heap.size 5 1 v n xs
set_option maxRecDepth 100000 in
set_option maxHeartbeats 1000000 in
theorem body_any (D P p n : Nat) (w : World) (h : Picks D w P p) (hD : D ≤ w.heap.size) (hn : n ≤ 1000) :
    Calls Try.prog 15 #[.pointer (some ⟨P, 0, none⟩), .int .i64 (n : Int)] w (BodyIs D P n w) := by
  have B1 := (Below.refl w.heap.size w).alloc (Nat.le_refl _) (.cells (madeCells #[.int .u8 0] n) 5)
  have HC : Hid (Chose D P w (w.alloc (.cells (madeCells #[.int .u8 0] n) 5))) := ⟨Kept.of_below B1, p, h.grew B1⟩
  have HR : Hid (∃ f, (w.alloc (.cells (madeCells #[.int .u8 0] n) 5)).rowIs w.heap.size 5 n f) := ⟨_, World.rowIs_made w (.int .u8 0) n 5⟩
  have lP := h.lt
  have hmk := fun W => make_u8s n W hn
  have HP : Hid (P ≠ w.heap.size) := by show P ≠ w.heap.size; omega
  clear B1 h
  go_enter Try.func15, Try.ntmps15
  go_wp2_with fail
  generalize w.alloc (.cells (madeCells #[.int .u8 0] n) 5) = w1 at *
  go_loopw [6] (fun i wr => ∃ k : Nat, k ≤ n ∧ i = .int .i64 k ∧ Hid (Chose D P w wr) ∧ Hid (∃ f, wr.rowIs w.heap.size 5 n f)) (fun i _ => n - (intOf i).toNat)
  case atStart => exact ⟨0, Nat.zero_le _, rfl, HC, HR⟩
  case round =>
    clear HC HR
    obtain ⟨k, hk, rfl, hc, hr⟩ := hrel
    by_cases hkn : k < n
    · have i1 : (k : Int) < (n : Int) := by omega
      obtain ⟨p', hp⟩ := hc.out.picks
      go_wp2_with fail
      refine (num_pk D P p' 256 _ hp (by decide) (by decide)).mono ?_
      rintro e w2 ⟨c2, v, rfl, hv⟩
      obtain ⟨f, hf⟩ := hr.out
      have hf := hf.of_block (c2.kept.block w.heap.size hf.lt (Ne.symm HP.out))
      have q0 := hf.cell (i := k) hkn
      have q1 := hf.frozen k
      have hc2 := hc.out.trans c2
      have HC : Hid (∀ v, Chose D P w (w2.setCell ⟨w.heap.size, k, none⟩ v)) := fun v => hc2.setNew (Nat.le_refl _) hD v
      have HR : Hid (∀ v, ∃ f, (w2.setCell ⟨w.heap.size, k, none⟩ v).rowIs w.heap.size 5 n f) := fun v => ⟨_, hf.set k v⟩
      clear hf hc2 c2 hc hr hp
      go_wp2_with fail
      go_roundw
      case rel => exact ⟨k + 1, by omega, by go_num, HC.out _, HR.out _⟩
      case measure => simp [intOf]; omega
    · obtain rfl : k = n := by omega
      go_wp2
      go_ret
      obtain ⟨f, cs, h1, h2, h3⟩ := hr.out
      refine ⟨hc.out, _, cs.toList, rfl, by simp [h2], .inr ⟨w.heap.size, k, cs, rfl, Nat.le_refl _, h1, Nat.le_refl _, by unfold maxLen; omega, by rw [h2, Nat.mul_one], ?_⟩⟩
      rw [Nat.mul_one, List.take_of_length_le (by simp [h2])]
end Go.Proofs.Ythlidbenhlidjaa

/-
  Package frame: what its demands come to.
-/
namespace Go.Proofs.Ythlidbenhlidjaa
open Go.RowKit Go.Deep

/-- Kind and times that a frame may have. -/
def Fr.terms (f : Fr) : Prop := (f.k = 1 ∨ f.k = 2 ∨ f.k = 3) ∧ 0 ≤ f.p ∧ f.p ≤ f.d ∧ f.d ≤ 1099511627776
/-- The world with a variable that holds f. -/
theorem box_below (w : World) (B : Obj) : Below w.heap.size w (w.alloc B) := (Below.refl _ _).alloc (Nat.le_refl _) _

/-- Bytes that can be cut in such symbols. -/
def cuts (n s : Int) : Prop := 1 ≤ s ∧ s ≤ 64 ∧ 1 ≤ n ∧ n ≤ 32 * s
/-- Behind the last of the known ones. -/
def Fr.turn (f : Fr) (m : Nat) (K : Nat → Fr) : Prop := m = 0 ∨ ((K (m - 1)).id < f.id ∧ (K (m - 1)).p ≤ f.p ∧ (K (m - 1)).d ≤ f.d)
end Go.Proofs.Ythlidbenhlidjaa

/-
  Package frame: whom a frame may hang on.
-/
namespace Go.Proofs.Ythlidbenhlidjaa
open Go.RowKit Go.Deep

set_option maxRecDepth 100000 in
theorem uslice_to (a : Option Addr) (len cap n : Nat) (w : World) (h : n ≤ cap) : (Instr.slice 23 (.slice a len cap) none (some (.int .i64 (n : Int))) none).run Try.prog w = .ok (.slice a n cap) w := by
  have hz : ∀ x : Addr, x.add 0 = x := fun _ => rfl
  have e := run_slice_h (P := Try.prog) w 23 a len cap Try.underlying23 .i64 (n : Int) (by omega) (by omega)
  rw [e]
  simp [sliced, hz]
  have hs : (sizeOf (Try.prog.elem 23)).run Try.prog w = .ok 1 w := by kernel_rfl
  rw [hs]
  rfl
/-- The first of n places that has it, or -1. -/
def Finds (n : Nat) (p : Nat → Prop) (e : Ending) : Prop := (∃ j : Nat, j < n ∧ p j ∧ e = .returned (.int .i64 (j : Int))) ∨ ((∀ j, j < n → ¬ p j) ∧ e = .returned (.int .i64 (-1)))
/-- A bool that tells p. -/
def Tells (w : World) (p : Prop) (e : Ending) (w' : World) : Prop := Below w.heap.size w w' ∧ ∃ b : Bool, e = .returned (.bool b) ∧ (b = true ↔ p)

/-- The i-th that a frame hangs on is none of those ahead, and known. -/
def good (r : Nat → Int) (m : Nat) (K : Nat → Fr) (i : Nat) : Prop := (∀ j, j < i → r j ≠ r i) ∧ ∃ q, q < m ∧ ((K q).id : Int) = r i
/-- A frame that hangs on whom it may. -/
def Fr.refs (f : Fr) (r : Nat → Int) (m : Nat) (K : Nat → Fr) : Prop := (f.k = 1 ∧ f.n = 0) ∨ (f.k ≠ 1 ∧ 1 ≤ f.n ∧ f.n ≤ 4 ∧ ∀ i, i < f.n → good r m K i)
theorem NumsAt.take {κ : IntKind} {w : World} {a : Option Addr} {n k : Nat} {x : Nat → Int} (h : NumsAt κ w a n x) (hk : k ≤ n) : NumsAt κ w a k x := fun h0 => by
  obtain ⟨b, o, e, hc⟩ := h (by omega)
  exact ⟨b, o, e, fun i hi => hc i (by omega)⟩

end Go.Proofs.Ythlidbenhlidjaa

/-
  Package frame: its face, Check.
-/
namespace Go.Proofs.Ythlidbenhlidjaa
open Go.RowKit Go.Deep

theorem tmpsF (n : Nat) (a v2 v3 v4 v5 v6 v7 v8 : Value) : #[a] ++ (((((((Array.replicate (n + 7) undef).setIfInBounds 3 v5).setIfInBounds 4 v6).setIfInBounds 2 v4).setIfInBounds 5 v7).setIfInBounds 6 v8).setIfInBounds 0 v2).setIfInBounds 1 v3 = #[a, v2, v3, v4, v5, v6, v7, v8] ++ Array.replicate n undef := by
  apply Array.toList_inj.mp
  simp [List.replicate_succ]
/-- A frame's Refs, as they must be in memory. -/
structure RefsAt (w : World) (f : Fr) (r : Nat → Int) : Prop where
  nums : NumsAt .u32 w f.a f.n r
  cap : f.n ≤ f.c
  len : f.n ≤ 1000
theorem RefsAt.grew {w w' : World} {f : Fr} {r : Nat → Int} (h : RefsAt w f r) (hb : Below w.heap.size w w') : RefsAt w' f r := ⟨h.nums.grew hb, h.cap, h.len⟩

/-- The face's two variables: the frame, and what is told. -/
structure Fc (w : World) (B : Nat) (f : Fr) : Prop where
  fr : FrAt w B f
  res : w.cell? ⟨B + 1, 0, none⟩ = some (.int .i64 0)
  frz : w.frozen? ⟨B + 1, 0, none⟩ = false
theorem Fc.grew {w w' : World} {B : Nat} {f : Fr} (h : Fc w B f) (hb : Below w.heap.size w w') : Fc w' B f :=
  ⟨h.fr.grew hb, (hb.cell (p := ⟨B + 1, 0, none⟩) (cell_lt h.res)).trans h.res, (World.frozen?_of_block (a := ⟨B + 1, 0, none⟩) (hb.block (B + 1) (cell_lt h.res))).trans h.frz⟩
/-- A number, and nothing of what lay there turned. -/
def NumIs (w : World) (E : Int) (e : Ending) (w' : World) : Prop := e = .returned (.int .i64 E) ∧ Below w.heap.size w w'

end Go.Proofs.Ythlidbenhlidjaa

/-
  The document's Find and Check.
-/
namespace Go.Proofs.Ythlidbenhlidjaa
open Go.RowKit Go.Deep

theorem FrAt.write {w : World} {B : Nat} {f : Fr} (h : FrAt w B f) (g : Fr) : FrAt ((((((w.setCell ⟨B, 0, none⟩ (.int .u32 (g.id : Int))).setCell ⟨B, 1, none⟩ (.int .i64 g.k)).setCell ⟨B, 2, none⟩ (.slice g.a g.n g.c)).setCell ⟨B, 3, none⟩ (.int .i64 g.s)).setCell ⟨B, 4, none⟩ (.int .i64 g.p)).setCell ⟨B, 5, none⟩ (.int .i64 g.d)) B g := by
  have s0 := World.cell?_setCell_same w ⟨B, 0, none⟩ (.int .u32 (g.id : Int)) h.c0
  have o : ∀ (w : World) (i j : Nat) (v x : Value), i ≠ j → w.cell? ⟨B, j, none⟩ = some x → (w.setCell ⟨B, i, none⟩ v).cell? ⟨B, j, none⟩ = some x := fun w i j v x hij hx => (World.cell?_setCell_other _ _ _ _ (fun e => hij (Addr.mk.inj e).2.1)).trans hx
  have t : ∀ (w : World) (i : Nat) (v x : Value), w.cell? ⟨B, i, none⟩ = some x → (w.setCell ⟨B, i, none⟩ v).cell? ⟨B, i, none⟩ = some v := fun w i v x hx => World.cell?_setCell_same _ _ _ hx
  refine ⟨?_, ?_, ?_, ?_, ?_, ?_, fun i => by simp only [World.frozen?_setCell]; exact h.frz i⟩
  · exact o _ 5 0 _ _ (by decide) (o _ 4 0 _ _ (by decide) (o _ 3 0 _ _ (by decide) (o _ 2 0 _ _ (by decide) (o _ 1 0 _ _ (by decide) (t _ 0 _ _ h.c0)))))
  · exact o _ 5 1 _ _ (by decide) (o _ 4 1 _ _ (by decide) (o _ 3 1 _ _ (by decide) (o _ 2 1 _ _ (by decide) (t _ 1 _ _ (o _ 0 1 _ _ (by decide) h.c1)))))
  · exact o _ 5 2 _ _ (by decide) (o _ 4 2 _ _ (by decide) (o _ 3 2 _ _ (by decide) (t _ 2 _ _ (o _ 1 2 _ _ (by decide) (o _ 0 2 _ _ (by decide) h.c2)))))
  · exact o _ 5 3 _ _ (by decide) (o _ 4 3 _ _ (by decide) (t _ 3 _ _ (o _ 2 3 _ _ (by decide) (o _ 1 3 _ _ (by decide) (o _ 0 3 _ _ (by decide) h.c3)))))
  · exact o _ 5 4 _ _ (by decide) (t _ 4 _ _ (o _ 3 4 _ _ (by decide) (o _ 2 4 _ _ (by decide) (o _ 1 4 _ _ (by decide) (o _ 0 4 _ _ (by decide) h.c4)))))
  · exact t _ 5 _ _ (o _ 4 5 _ _ (by decide) (o _ 3 5 _ _ (by decide) (o _ 2 5 _ _ (by decide) (o _ 1 5 _ _ (by decide) (o _ 0 5 _ _ (by decide) h.c5)))))
theorem below_write {w w' : World} {B G : Nat} (h : Below G w w') (hG : G ≤ B) (g : Fr) : Below G w ((((((w'.setCell ⟨B, 0, none⟩ (.int .u32 (g.id : Int))).setCell ⟨B, 1, none⟩ (.int .i64 g.k)).setCell ⟨B, 2, none⟩ (.slice g.a g.n g.c)).setCell ⟨B, 3, none⟩ (.int .i64 g.s)).setCell ⟨B, 4, none⟩ (.int .i64 g.p)).setCell ⟨B, 5, none⟩ (.int .i64 g.d)) :=
  (((((h.setCell (p := ⟨B, 0, none⟩) hG _).setCell (p := ⟨B, 1, none⟩) hG _).setCell (p := ⟨B, 2, none⟩) hG _).setCell (p := ⟨B, 3, none⟩) hG _).setCell (p := ⟨B, 4, none⟩) hG _).setCell (p := ⟨B, 5, none⟩) hG _
/-- What Find answers. -/
def FindIs (w : World) (m : Nat) (K : Nat → Fr) (v : Int) (e : Ending) (w' : World) : Prop :=
  Below w.heap.size w w' ∧ ∃ (g : Fr) (b : Bool), e = .returned (.tuple #[g.val, .bool b]) ∧ ((b = true ∧ ∃ j, j < m ∧ ((K j).id : Int) = v ∧ g = K j ∧ ∀ q, q < j → ((K q).id : Int) ≠ v) ∨ (b = false ∧ ∀ j, j < m → ((K j).id : Int) ≠ v))
theorem FindIs.mk {w w' : World} {m : Nat} {K : Nat → Fr} {v : Int} {g : Fr} {b : Bool} (hb : Below w.heap.size w w') (h : (b = true ∧ ∃ j, j < m ∧ ((K j).id : Int) = v ∧ g = K j ∧ ∀ q, q < j → ((K q).id : Int) ≠ v) ∨ (b = false ∧ ∀ j, j < m → ((K j).id : Int) ≠ v)) :
    FindIs w m K v (.returned (.tuple #[.agg #[.int .u32 (g.id : Int), .int .i64 g.k, .slice g.a g.n g.c, .int .i64 g.s, .int .i64 g.p, .int .i64 g.d], .bool b])) w' := ⟨hb, g, b, rfl, h⟩
def Fr.zero : Fr := ⟨0, 0, none, 0, 0, 0, 0, 0⟩

end Go.Proofs.Ythlidbenhlidjaa

/-
  A row of frames that is written in place.
-/
namespace Go.Proofs.Ythlidbenhlidjaa
open Go.RowKit Go.Deep

/-- A frame's cells. -/
def Fr.cell (f : Fr) : Nat → Value
  | 0 => .int .u32 (f.id : Int)
  | 1 => .int .i64 f.k
  | 2 => .slice f.a f.n f.c
  | 3 => .int .i64 f.s
  | 4 => .int .i64 f.p
  | _ => .int .i64 f.d
/-- The block B holds m frames, and may be written. -/
def FsAt (w : World) (B m : Nat) (K : Nat → Fr) : Prop := w.rowIs B 25 (m * 6) (fun i => (K (i / 6)).cell (i % 6))
theorem FsAt.lt {w : World} {B m : Nat} {K : Nat → Fr} (h : FsAt w B m K) : B < w.heap.size := World.rowIs.lt h
theorem FsAt.congr {w : World} {B m : Nat} {K L : Nat → Fr} (h : FsAt w B m K) (e : ∀ i, i < m → K i = L i) : FsAt w B m L := World.rowIs.congr h fun i hi => by
  show (K (i / 6)).cell (i % 6) = (L (i / 6)).cell (i % 6)
  rw [e (i / 6) (by omega)]
theorem FsAt.block {w w' : World} {B m : Nat} {K : Nat → Fr} (h : FsAt w B m K) (e : w'.heap[B]? = w.heap[B]?) : FsAt w' B m K := World.rowIs.of_block h e
theorem FsAt.grew {w w' : World} {B m : Nat} {K : Nat → Fr} (h : FsAt w B m K) (hb : Below w.heap.size w w') : FsAt w' B m K := h.block (hb.block B h.lt)
theorem FsAt.cell {w : World} {B m : Nat} {K : Nat → Fr} (h : FsAt w B m K) (i j n : Nat) (hi : i < m) (hj : j < 6) (hn : n = i * 6 + j) : w.cell? ⟨B, n, none⟩ = some ((K i).cell j) := by
  subst hn
  have := World.rowIs.cell (i := i * 6 + j) h (by omega)
  simp only [show (i * 6 + j) / 6 = i by omega, show (i * 6 + j) % 6 = j by omega] at this
  exact this
theorem FsAt.frz {w : World} {B m : Nat} {K : Nat → Fr} (h : FsAt w B m K) (n : Nat) : w.frozen? ⟨B, n, none⟩ = false := World.rowIs.frozen h n
theorem FsAt.frs {w : World} {B m : Nat} {K : Nat → Fr} (h : FsAt w B m K) : FrsAt w (some ⟨B, 0, none⟩) m K := fun _ => ⟨B, 0, rfl, fun i hi =>
  ⟨h.cell i 0 _ hi (by decide) (by omega), h.cell i 1 _ hi (by decide) (by omega), h.cell i 2 _ hi (by decide) (by omega), h.cell i 3 _ hi (by decide) (by omega), h.cell i 4 _ hi (by decide) (by omega), h.cell i 5 _ hi (by decide) (by omega)⟩⟩
/-- One cell of one frame is written. -/
theorem FsAt.put {w : World} {B m : Nat} {K : Nat → Fr} (h : FsAt w B m K) (i j n : Nat) (v : Value) (g : Fr) (hj : j < 6) (hn : n = i * 6 + j) (hg : ∀ q, q < 6 → g.cell q = if q = j then v else (K i).cell q) : FsAt (w.setCell ⟨B, n, none⟩ v) B m (fun q => if q = i then g else K q) := by
  subst hn
  refine World.rowIs.congr (World.rowIs.set h (i * 6 + j) v) fun q hq => ?_
  show (if q = i * 6 + j then v else (K (q / 6)).cell (q % 6)) = (if q / 6 = i then g else K (q / 6)).cell (q % 6)
  by_cases e : q / 6 = i
  · subst e
    rw [if_pos rfl, hg (q % 6) (by omega)]
    by_cases e2 : q % 6 = j
    · rw [if_pos (by omega), if_pos e2]
    · rw [if_neg (by omega), if_neg e2]
  · rw [if_neg (by omega), if_neg e]
/-- One frame is written. -/
theorem FsAt.write {w : World} {B m : Nat} {K : Nat → Fr} (h : FsAt w B m K) (i n : Nat) (g : Fr) (hn : n = i * 6) :
    FsAt ((((((w.setCell ⟨B, n, none⟩ (.int .u32 (g.id : Int))).setCell ⟨B, n + 1, none⟩ (.int .i64 g.k)).setCell ⟨B, n + 2, none⟩ (.slice g.a g.n g.c)).setCell ⟨B, n + 3, none⟩ (.int .i64 g.s)).setCell ⟨B, n + 4, none⟩ (.int .i64 g.p)).setCell ⟨B, n + 5, none⟩ (.int .i64 g.d)) B m (fun q => if q = i then g else K q) := by
  subst hn
  refine World.rowIs.congr (World.rowIs.set (World.rowIs.set (World.rowIs.set (World.rowIs.set (World.rowIs.set (World.rowIs.set h (i * 6) _) (i * 6 + 1) _) (i * 6 + 2) _) (i * 6 + 3) _) (i * 6 + 4) _) (i * 6 + 5) _) fun q hq => ?_
  by_cases e : q / 6 = i
  · have hq : q = i * 6 ∨ q = i * 6 + 1 ∨ q = i * 6 + 2 ∨ q = i * 6 + 3 ∨ q = i * 6 + 4 ∨ q = i * 6 + 5 := by omega
    rcases hq with rfl | rfl | rfl | rfl | rfl | rfl
    · have e1 : i * 6 % 6 = 0 := by omega
      simp [e, e1, Fr.cell]
    · have e1 : (i * 6 + 1) % 6 = 1 := by omega
      simp [e, e1, Fr.cell]
    · have e1 : (i * 6 + 2) % 6 = 2 := by omega
      simp [e, e1, Fr.cell]
    · have e1 : (i * 6 + 3) % 6 = 3 := by omega
      simp [e, e1, Fr.cell]
    · have e1 : (i * 6 + 4) % 6 = 4 := by omega
      simp [e, e1, Fr.cell]
    · have e1 : (i * 6 + 5) % 6 = 5 := by omega
      simp [e, e1, Fr.cell]
  · rw [if_neg (by omega), if_neg (by omega), if_neg (by omega), if_neg (by omega), if_neg (by omega), if_neg (by omega)]
    show (K (q / 6)).cell (q % 6) = (if q / 6 = i then g else K (q / 6)).cell (q % 6)
    rw [if_neg e]
theorem Kept.write {R : Nat} {w w' : World} (h : Kept R w w') (n : Nat) (g : Fr) : Kept R w ((((((w'.setCell ⟨R, n, none⟩ (.int .u32 (g.id : Int))).setCell ⟨R, n + 1, none⟩ (.int .i64 g.k)).setCell ⟨R, n + 2, none⟩ (.slice g.a g.n g.c)).setCell ⟨R, n + 3, none⟩ (.int .i64 g.s)).setCell ⟨R, n + 4, none⟩ (.int .i64 g.p)).setCell ⟨R, n + 5, none⟩ (.int .i64 g.d)) :=
  ((((((h.trans (Kept.set _ _ _)).trans (Kept.set _ _ _)).trans (Kept.set _ _ _)).trans (Kept.set _ _ _)).trans (Kept.set _ _ _)).trans (Kept.set _ _ _))
theorem Try.infoFrame : (Try.prog.info? 25).map (fun i => (i.zero, i.size, i.bytes)) = some (some (.agg #[.int .u32 0, .int .i64 0, .slice none 0 0, .int .i64 0, .int .i64 0, .int .i64 0]), 6, 64) := by kernel_rfl
theorem make_frames (m : Nat) (w : World) (hm : m ≤ 1000) : (Instr.makeSlice 67 (.int .i64 (m : Int)) (.int .i64 (m : Int))).run Try.prog w = .ok (.slice (some ⟨w.heap.size, 0, none⟩) m m) (w.alloc (.cells (madeCells #[.int .u32 0, .int .i64 0, .slice none 0 0, .int .i64 0, .int .i64 0, .int .i64 0] (m * 6)) 25)) := by
  obtain ⟨i0, hi, hz0, hz1, hz2⟩ := info_parts Try.infoFrame
  have := run_makeSlice (P := Try.prog) w 67 25 i0 _ Try.underlying67 hi hz0 .i64 .i64 (m : Int) (m : Int) (by omega) (Int.le_refl _) (by rw [hz1]; simp; omega) (by rw [hz2]; omega) (by omega)
  rw [hz1] at this
  simpa [Value.cells] using this
theorem FsAt.made (w : World) (m : Nat) : FsAt (w.alloc (.cells (madeCells #[.int .u32 0, .int .i64 0, .slice none 0 0, .int .i64 0, .int .i64 0, .int .i64 0] (m * 6)) 25)) w.heap.size m (fun _ => Fr.zero) := by
  refine ⟨madeCells #[.int .u32 0, .int .i64 0, .slice none 0 0, .int .i64 0, .int .i64 0, .int .i64 0] (m * 6), heap_alloc_new w _, size_madeCells _ _, fun i hi => ?_⟩
  simp only [madeCells]
  simp [hi]
  have hq : i % 6 = 0 ∨ i % 6 = 1 ∨ i % 6 = 2 ∨ i % 6 = 3 ∨ i % 6 = 4 ∨ i % 6 = 5 := by omega
  rcases hq with e | e | e | e | e | e <;> rw [e] <;> rfl
end Go.Proofs.Ythlidbenhlidjaa

/-
  A row of uint32 of the call's own, appended to.
-/
namespace Go.Proofs.Ythlidbenhlidjaa
open Go.RowKit Go.Deep

def ucells (x : Nat → Int) (k : Nat) : List Value := (List.range k).map fun i => .int .u32 (x i)
theorem ucells_len (x : Nat → Int) (k : Nat) : (ucells x k).length = k := by simp [ucells]
theorem ucells_get (x : Nat → Int) (k j : Nat) (v : Value) (h : (ucells x k)[j]? = some v) : j < k ∧ v = .int .u32 (x j) := by
  have hj : j < k := by have := (List.getElem?_eq_some_iff.1 h).1; rwa [ucells_len] at this
  refine ⟨hj, ?_⟩
  simp [ucells, hj] at h
  exact h.symm
theorem ucells_one (x : Nat → Int) (k : Nat) : ∀ u ∈ ucells x k, u.oneCell' = true := by
  intro u hu
  obtain ⟨i, _, rfl⟩ := List.mem_map.1 hu
  rfl
/-- A row of the call's own, of n numbers x. -/
def Uor (w : World) (base : Nat) (v : Value) (n : Nat) (x : Nat → Int) : Prop := w.ownsRow base 22 1 v n (ucells x n)
theorem Uor.nil (w : World) (base : Nat) (x : Nat → Int) : Uor w base (.slice none 0 0) 0 x := ⟨rfl, .inl ⟨rfl, rfl⟩⟩
theorem Uor.any {w : World} {base : Nat} {v : Value} {n : Nat} {x : Nat → Int} (h : Uor w base v n x) :
    ∃ r cap, v = .slice r n cap ∧ n ≤ cap ∧ (∀ g, v.ownBlock = some g → base ≤ g ∧ g < w.heap.size) ∧ NumsAt .u32 w r n x := by
  have hl : ∀ g, v.ownBlock = some g → base ≤ g ∧ g < w.heap.size := fun g e => World.ownsRow.lt h g e
  rcases h.2 with ⟨rfl, rfl⟩ | ⟨g, cap, cur, rfl, hb, hh, hle, hm, hs, ht⟩
  · exact ⟨none, 0, rfl, Nat.le_refl _, hl, fun h => absurd h (by omega)⟩
  · refine ⟨_, cap, rfl, hle, hl, fun _ => ⟨g, 0, rfl, fun i hi => ?_⟩⟩
    have e : cur.toList[i]? = some (.int .u32 (x i)) := by
      have : (cur.toList.take (n * 1))[i]? = cur.toList[i]? := by rw [List.getElem?_take_of_lt (by omega)]
      rw [← this, ht]
      simp [ucells, hi]
    simp [World.cell?, hh]
    simpa using e
theorem Uor.refs {w : World} {base : Nat} {f : Fr} {x : Nat → Int} (h : Uor w base (.slice f.a f.n f.c) f.n x) (hn : f.n ≤ 1000) : RefsAt w f x := by
  obtain ⟨r, cap, e, h1, -, h2⟩ := h.any
  cases e
  exact ⟨h2, h1, hn⟩
theorem Uor.kept {R : Nat} {w w' : World} {base : Nat} {v : Value} {n : Nat} {x : Nat → Int} (h : Uor w base v n x) (hk : Kept R w w') (hR : R < base) : Uor w' base v n x := by
  have h' : w.ownsRow base 22 1 v n (ucells x n) := h
  refine h'.kept (row := some R) ⟨hk.os, hk.tape, hk.output, hk.size, fun k hk' hne => hk.block k hk' (fun e => hne (by rw [e]))⟩ ?_
  cases e : v.ownBlock with
  | none => exact .inl rfl
  | some g =>
    have := (h'.lt g e).1
    refine .inr fun e2 => ?_
    cases e2
    omega
theorem Uor.grew {w w' : World} {base : Nat} {v : Value} {n : Nat} {x : Nat → Int} (h : Uor w base v n x) (hb : Below w.heap.size w w') : Uor w' base v n x := by
  have h' : w.ownsRow base 22 1 v n (ucells x n) := h
  refine h'.kept (row := none) ⟨hb.os, hb.tape, hb.output, hb.size, fun k hk _ => hb.block k hk⟩ ?_
  cases e : v.ownBlock with
  | none => exact .inl rfl
  | some g => exact .inr (by simp)
theorem Uor.base {w : World} {base base' : Nat} {v : Value} {n : Nat} {x : Nat → Int} (h : Uor w base v n x) (hb : base' ≤ base) : Uor w base' v n x := by
  obtain ⟨h1, h2⟩ := h
  refine ⟨h1, ?_⟩
  rcases h2 with h2 | ⟨g, cap, cur, e, hg, h3⟩
  · exact .inl h2
  · exact .inr ⟨g, cap, cur, e, Nat.le_trans hb hg, h3⟩
theorem Try.infoU32 : (Try.prog.info? 22).map (fun i => (i.zero, i.size, i.bytes)) = some (some (.int .u32 0), 1, 4) := by kernel_rfl
/-- m more numbers y, from wherever they lie. -/
theorem Uor.push {W : World} {base : Nat} {v : Value} {n m c : Nat} {x y : Nat → Int} {a : Option Addr} (ty : TypeId) (h : Uor W base v n x) (hy : NumsAt .u32 W a m y) (h0 : 0 < m) (hn : n + m ≤ 1000000) (hbase : base ≤ W.heap.size) :
    ∃ v' W', (Builtin.append_ #[23, 23] ty #[v, .slice a m c]).run Try.prog W = .ok v' W' ∧ Uor W' base v' (n + m) (fun i => if i < n then x i else y (i - n)) ∧ W.grownBy W' v.ownBlock := by
  obtain ⟨i0, hi, hz0, hz1, hz2⟩ := info_parts Try.infoU32
  obtain ⟨b, o, rfl, hc⟩ := hy h0
  obtain ⟨v', W', hr, hown, hgr, -, -⟩ := run_append_own_at (P := Try.prog) W base 23 ty 22 i0 (.int .u32 0) 1 4 Try.underlying23 hi hz0 hz1 hz2 rfl (by decide) v n _ h ⟨b, o, none⟩ m c (ucells y m) (by rw [ucells_len, Nat.mul_one])
    (fun j u hj => by
      obtain ⟨hjn, rfl⟩ := ucells_get _ _ _ _ hj
      rw [Addr.add_mid]
      exact hc j hjn) (ucells_one _ _) (by unfold maxLen; omega) (by omega) hbase
  refine ⟨v', W', hr, ?_, hgr⟩
  have e : ucells x n ++ ucells y m = ucells (fun i => if i < n then x i else y (i - n)) (n + m) := by
    refine List.ext_getElem? fun i => ?_
    by_cases g : i < n
    · rw [List.getElem?_append_left (by rw [ucells_len]; exact g)]
      simp [ucells, g, show i < n + m by omega]
    · rw [List.getElem?_append_right (by rw [ucells_len]; omega), ucells_len]
      by_cases q : i < n + m
      · simp [ucells, g, q, show i - n < m by omega]
      · simp [ucells, q, show ¬ i - n < m by omega]
  show W'.ownsRow _ _ _ _ _ _
  rw [← e]
  exact hown
/-- What has grown turned nothing but its own. -/
theorem Uor.grown {W W' : World} {base : Nat} {v : Value} {n : Nat} {x : Nat → Int} (h : Uor W base v n x) (hg : W.grownBy W' v.ownBlock) (hb : base ≤ W.heap.size) : Below base W W' :=
  ⟨hg.os, hg.tape, hg.output, hg.size, fun k hk => hg.block k (by omega) (fun e => by have := (World.ownsRow.lt h k e.symm).1; omega)⟩
end Go.Proofs.Ythlidbenhlidjaa

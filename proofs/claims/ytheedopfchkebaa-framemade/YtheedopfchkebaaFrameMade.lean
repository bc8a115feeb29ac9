/-
  Package frame's Check answers as the document's does of right frames out of numbers, something of which was turned: the call returns true, whatever the numbers, which, and how (60 numbers at most are looked at; no condition).
-/
import Derived.Test.YtheedopfchkebaaRows
import Derived.WalkKit
import Derived.ProofKit
import Derived.OpenShut
import Derived.ShutString
import Derived.ChangeOld
import Derived.Below
import Derived.Carry
import Derived.Test.YtheedopfchkebaaOpn
import Derived.Test.YtheedopfchkebaaFbn
import Derived.Test.YtheedopfchkebaaFrc
import Derived.Test.YtheedopfchkebaaFfr
import Derived.Deep.RegionHeld
namespace Go.Proofs.Ytheedopfchkebaa.frameMade
open Go.ChangeShapes Go.WideShapes Go.ChangeAt Go.RowKit
open Go.ChangeMaps (open_string shut_string)
set_option linter.unusedVariables false

theorem own : ownKnob Try.prog.godebug = none := by kernel_rfl
theorem laidOut : laidOutB Try.prog = true := by kernel_rfl

open Go.Deep

theorem uor_push {W : World} {base : Nat} {v : Value} {n m c : Nat} {x y : Nat → Int} {a : Addr} (ty : TypeId) (h : Uor W base v n x) (hy : ∀ j, j < m → W.cell? (a.add j) = some (.int .u32 (y j))) (hn : n + m ≤ 1000000) (hbase : base ≤ W.heap.size) :
    ∃ v' W' z, (Builtin.append_ #[23, 23] ty #[v, .slice (some a) m c]).run Try.prog W = .ok v' W' ∧ Uor W' base v' (n + m) z ∧ W.grownBy W' v.ownBlock ∧ (v'.ownBlock = v.ownBlock ∨ v'.ownBlock = some W.heap.size) := by
  obtain ⟨i0, hi, hz0, hz1, hz2⟩ := info_parts Try.infoU32
  obtain ⟨v', W', hr, hown, hgr, -, hat⟩ := run_append_own_at (P := Try.prog) W base 23 ty 22 i0 (.int .u32 0) 1 4 Try.underlying23 hi hz0 hz1 hz2 rfl (by decide) v n _ h a m c (ucells y m) (by rw [ucells_len, Nat.mul_one])
    (fun j u hj => by
      obtain ⟨hjn, rfl⟩ := ucells_get _ _ _ _ hj
      exact hy j hjn) (ucells_one _ _) (by unfold maxLen; omega) (by omega) hbase
  refine ⟨v', W', fun i => if i < n then x i else y (i - n), hr, ?_, hgr, hat⟩
  have e : ucells x n ++ ucells y m = ucells (fun i => if i < n then x i else y (i - n)) (n + m) := by
    refine List.ext_getElem? fun i => ?_
    by_cases g : i < n
    · rw [List.getElem?_append_left (by rw [ucells_len]; exact g)]
      simp [ucells, g, show i < n + m by omega]
    · rw [List.getElem?_append_right (by rw [ucells_len]; omega), ucells_len]
      by_cases q : i < n + m
      · simp [ucells, g, q, show i - n < m by omega]
      · simp [ucells, q, show ¬ i - n < m by omega]
  show W'.ownsRow _ _ _ _ _ _
  rw [← e]
  exact hown
/-- append(s, s...) -/
theorem uor_double {W : World} {base : Nat} {a : Option Addr} {n c : Nat} {x : Nat → Int} (ty : TypeId) (h : Uor W base (.slice a n c) n x) (hn : n ≤ 1000) (hbase : base ≤ W.heap.size) :
    ∃ v' W' z, (Builtin.append_ #[23, 23] ty #[.slice a n c, .slice a n c]).run Try.prog W = .ok v' W' ∧ Uor W' base v' (n + n) z ∧ W.grownBy W' (Value.slice a n c).ownBlock ∧ (v'.ownBlock = (Value.slice a n c).ownBlock ∨ v'.ownBlock = some W.heap.size) := by
  cases a with
  | none =>
    obtain ⟨i0, hi, hz0, hz1, hz2⟩ := info_parts Try.infoU32
    rcases h.2 with ⟨e, -⟩ | ⟨g, cap, cur, e, _⟩
    · cases e
      refine ⟨.slice none 0 0, W, x, ?_, h, ⟨rfl, rfl, rfl, Nat.le_refl _, fun _ _ _ => rfl⟩, .inl rfl⟩
      simp [Builtin.append_, run_underlying Try.underlying23, sizeOf, typeInfo, hi, Builtin.lenOf, Builtin.firstCells]
    · cases e
  | some a =>
    obtain ⟨r, cap, e, -, -, hnum⟩ := h.any
    cases e
    refine uor_push (y := x) ty h (fun j hj => ?_) (by omega) hbase
    obtain ⟨b, o, e, hc⟩ := hnum (by omega)
    cases e
    rw [Addr.add_mid]
    exact hc j hj

def clk (n : Int) : Nat → Int
  | 0 => 0
  | 1 => 9
  | _ => n
/-- What is held while the last lines go on. -/
structure Held (w : World) (N : Nat) (f : Fr) (rr : Nat → Int) (r : Option Addr) (m : Nat) (K : Nat → Fr) (W : World) : Prop where
  fr : FrAt W N f
  refs : RefsAt W f rr
  frs : FrsAt W r m K
  bel : Below w.heap.size w W
theorem Held.grew {w W W' : World} {N : Nat} {f : Fr} {rr : Nat → Int} {r : Option Addr} {m : Nat} {K : Nat → Fr} (h : Held w N f rr r m K W) (hb : Below W.heap.size W W') : Held w N f rr r m K W' :=
  ⟨h.fr.grew hb, h.refs.grew hb, h.frs.grew hb, h.bel.trans (hb.mono h.bel.size)⟩
/-- A part of the frame is turned. -/
theorem Held.store {w W : World} {N i : Nat} {f g : Fr} {rr : Nat → Int} {r : Option Addr} {m : Nat} {K : Nat → Fr} {v : Value} (h : Held w N f rr r m K W) (hg : FrAt (W.setCell ⟨N, i, none⟩ v) N g) (e : Value.slice g.a g.n g.c = .slice f.a f.n f.c)
    (hN : w.heap.size ≤ N) (hr : ∀ b o, r = some ⟨b, o, none⟩ → b ≠ N) (hf : ∀ b o, f.a = some ⟨b, o, none⟩ → b ≠ N) : Held w N g rr r m K (W.setCell ⟨N, i, none⟩ v) := by
  have q : ∀ b, b ≠ N → (W.setCell ⟨N, i, none⟩ v).heap[b]? = W.heap[b]? := fun b hb => Below.heap_setCell W ⟨N, i, none⟩ v b hb
  have e1 : g.a = f.a ∧ g.n = f.n ∧ g.c = f.c := by cases g; cases f; cases e; exact ⟨rfl, rfl, rfl⟩
  obtain ⟨ea, en, ec⟩ := e1
  refine ⟨hg, ⟨?_, by rw [en, ec]; exact h.refs.cap, by rw [en]; exact h.refs.len⟩, h.frs.block (fun b o e _ => q b (hr b o e)), h.bel.setCell (p := ⟨N, i, none⟩) hN v⟩
  rw [ea, en]
  intro h0
  obtain ⟨b, o, e2, hc⟩ := h.refs.nums h0
  exact ⟨b, o, e2, fun j hj => (World.cell?_of_block (a := ⟨b, o + j, none⟩) (q b (hf b o e2))).trans (hc j hj)⟩
/-- The frame's row has grown, and is stored. -/
theorem Held.append {w W W' : World} {N : Nat} {f : Fr} {rr : Nat → Int} {r : Option Addr} {m : Nat} {K : Nat → Fr} {a' : Option Addr} {n' c' base : Nat} {y : Nat → Int} (h : Held w N f rr r m K W) (hg : W.grownBy W' (Value.slice f.a f.n f.c).ownBlock) (ho : ∀ g, (Value.slice f.a f.n f.c).ownBlock = some g → base ≤ g ∧ g < N) (o : Uor W' base (.slice a' n' c') n' y) (hy : ∀ g, (Value.slice a' n' c').ownBlock = some g → g ≠ N) (hn : n' ≤ 1000)
    (hN : w.heap.size ≤ N) (hb : w.heap.size ≤ base) (hr : ∀ b o, r = some ⟨b, o, none⟩ → b ≠ N ∧ b < base) : Held w N { f with a := a', n := n', c := c' } y r m K (W'.setCell ⟨N, 2, none⟩ (.slice a' n' c')) := by
  have q : ∀ b, b < W.heap.size → (∀ g, (Value.slice f.a f.n f.c).ownBlock = some g → g ≠ b) → W'.heap[b]? = W.heap[b]? := fun b hb hne => hg.block b hb (fun e => hne b e.symm rfl)
  have q2 : ∀ b, b ≠ N → (W'.setCell ⟨N, 2, none⟩ (.slice a' n' c')).heap[b]? = W'.heap[b]? := fun b hb => Below.heap_setCell W' ⟨N, 2, none⟩ _ b hb
  have f1 : FrAt W' N f := h.fr.block (q N h.fr.lt (fun g e => by have := (ho g e).2; omega))
  have o2 : Uor (W'.setCell ⟨N, 2, none⟩ (.slice a' n' c')) base (.slice a' n' c') n' y := by
    have o' : W'.ownsRow base 22 1 (.slice a' n' c') n' (ucells y n') := o
    refine World.ownsRow.kept (row := some N) o' ⟨rfl, rfl, rfl, by simp [World.setCell], fun k _ hne => q2 k (fun e => hne (by rw [e]))⟩ ?_
    cases e : (Value.slice a' n' c').ownBlock with
    | none => exact .inl rfl
    | some g => exact .inr (fun e2 => by cases e2; exact hy _ e rfl)
  have b1 : Below w.heap.size w W' := h.bel.trans ⟨hg.os, hg.tape, hg.output, hg.size, fun k hk => q k (Nat.lt_of_lt_of_le hk h.bel.size) (fun g e => by have := (ho g e).1; omega)⟩
  refine ⟨f1.setRefs a' n' c', o2.refs (f := { f with a := a', n := n', c := c' }) hn, h.frs.block (fun b o e hl => ?_), b1.setCell (p := ⟨N, 2, none⟩) hN _⟩
  have hb2 := hr b o e
  exact (q2 b hb2.1).trans (q b hl (fun g e2 => by have := (ho g e2).1; omega))

set_option maxRecDepth 100000 in
set_option maxHeartbeats 4000000 in
theorem core (a : Option Addr) (l c : Nat) (x : Nat → Nat) (wh : Nat) (n : Int) (ru : Nat) (w : World) (h : BytesAt w a l x) (hl : l ≤ 60) (hwh : wh < 256) :
    Calls Try.prog 4 #[.slice a l c, .int .u8 (wh : Int), .int .i64 n, .int .u32 (ru : Int)] w fun e w' => e = .returned (.bool true) ∧ Below w.heap.size w w' := by
  have i1 : decide ((60 : Int) < (l : Int)) = false := by simp; omega
  obtain ⟨sw, hsw⟩ : ∃ q : Nat, (wh : Int) % 9 = (q : Int) := ⟨wh % 9, by omega⟩
  go_enter Try.func4, Try.ntmps4
  go_wp2_with fail
  refine (begun12 _).mono ?_
  rintro e w1 ⟨rfl, b1⟩
  have h1 := h.grew b1
  go_wp2_with fail
  refine (made_any a l c x w1 h1 hl).mono ?_
  rintro e w2 ⟨rfl, b2, s2, pk⟩
  have HB2 : Hid (Below w.heap.size w w2) := b1.trans (b2.mono b1.size)
  have lw : w.heap.size ≤ w1.heap.size := b1.size
  generalize w1.heap.size = P at *
  clear h h1 b1 b2 i1
  go_wp2_with fail
  refine (frames_any (P + 1) P 0 w2 pk (by omega)).mono ?_
  rintro e w3 ⟨c3, v, m, K, rfl, hF, hm, hI⟩
  obtain ⟨r, cap, rfl, hfr, hbk⟩ := hF.any
  obtain ⟨lo, l1, l2⟩ : ∃ lo : Nat, (m = 0 → lo = 0) ∧ (0 < m → lo = (K (m - 1)).id) := by
    by_cases e : m = 0
    · exact ⟨0, fun _ => rfl, fun h => absurd h (by omega)⟩
    · exact ⟨_, fun h => absurd h e, fun _ => rfl⟩
  obtain ⟨p3, hp3⟩ := c3.picks
  have s3 := c3.kept.size
  have HF3 : Hid (Ffo w3 w2.heap.size (.slice r m cap) m K) := hF
  have HBK : Hid (∀ b o, r = some ⟨b, o, none⟩ → w2.heap.size ≤ b ∧ b < w3.heap.size) := hbk
  have HB3 : Hid (Below w.heap.size w w3) := HB2.out.trans (c3.kept.below lw HB2.out.size)
  have N3 : Hid (∀ (t : Nat), t ≤ 1000 → Calls Try.prog 14 #[.pointer (some ⟨P, 0, none⟩), .slice r m cap, .int .i64 (t : Int), .int .i64 4] w3 (NextIs (P + 1) P lo w3)) := fun t ht =>
    next_any (P + 1) P p3 lo r m cap K t w3 hp3 (by omega) ht (by omega) (fun b o e => by have := (hbk b o e).1; omega) (fun h0 => by have := hI.1 (m - 1) (by omega); omega) l1 l2 hfr
  clear hF hfr hbk l1 l2 hp3 hI pk c3
  have HS : Hid (w2.heap.size = P + 1 ∧ w2.heap.size ≤ w3.heap.size ∧ w.heap.size ≤ P) := ⟨s2, s3, lw⟩
  clear s2 s3 lw
  go_wp2_with fail
  refine (N3.out 9 (by decide)).mono ?_
  rintro e w4 ⟨c4, f, rr, bv, rfl, hu, hn4, hid⟩
  have hu4 := hu.refs (by omega)
  have HF4 := HF3.out.kept c4.kept (by have := HS.out; omega)
  obtain ⟨r', cap', er, hfr4, -⟩ := HF4.any
  cases er
  obtain ⟨y0, e0⟩ : ∃ x, w4.alloc (.cells #[.int .u32 (f.id : Int), .int .i64 f.k, .slice f.a f.n f.c, .int .i64 f.s, .int .i64 f.p, .int .i64 f.d] 25) = x := ⟨_, rfl⟩
  have B0 : Below w4.heap.size w4 y0 := e0 ▸ box_below w4 _
  have F0 : FrAt y0 w4.heap.size f := e0 ▸ FrAt.made w4 _ f
  have s4 := c4.kept.size
  have HY : Hid (Held w w4.heap.size f rr r m K y0) := ⟨F0, hu4.grew B0, hfr4.grew B0, (HB3.out.trans (c4.kept.below (HS.out.2.2) HB3.out.size)).trans (B0.mono (Nat.le_trans HB3.out.size s4))⟩
  have HU : Hid (Uor y0 w3.heap.size (.slice f.a f.n f.c) f.n rr) := hu.grew B0
  have HO : Hid (∀ g, (Value.slice f.a f.n f.c).ownBlock = some g → w3.heap.size ≤ g ∧ g < w4.heap.size) := fun g e => World.ownsRow.lt hu g e
  have HA : Hid (∀ b o, f.a = some ⟨b, o, none⟩ → b ≠ w4.heap.size) := fun b o e => by
    have := (World.ownsRow.lt hu b (by rw [e]; rfl)).2
    omega
  have HR : Hid (∀ b o, r = some ⟨b, o, none⟩ → b ≠ w4.heap.size ∧ b < w3.heap.size) := fun b o e => by have := (HBK.out b o e).2; omega
  have HN : Hid (w.heap.size ≤ w4.heap.size ∧ w.heap.size ≤ w3.heap.size ∧ w3.heap.size ≤ w4.heap.size ∧ w4.heap.size < y0.heap.size) := ⟨Nat.le_trans HB3.out.size s4, HB3.out.size, s4, F0.lt⟩
  obtain ⟨f0, f1, f2, f3, f4, f5, fz⟩ := F0
  clear B0 hu hu4 HF4 hfr4 c4 hid N3 HF3 HB2 HB3 HS HBK s4
  unfold Fr.val
  obtain ⟨k5, ek5⟩ : ∃ q, Int.tmod n 5 = q := ⟨_, rfl⟩
  obtain ⟨k200, ek200⟩ : ∃ q, Int.tmod n 200 = q := ⟨_, rfl⟩
  by_cases h0 : sw = 0
  · have a0 : ((sw : Int) == 0) = true := by simp [h0]
    clear h0
    obtain ⟨z, ez⟩ : ∃ x, y0.setCell ⟨w4.heap.size, 1, none⟩ (.int .i64 k5) = x := ⟨_, rfl⟩
    have fzj := fz 1
    have HZ0 := HY.out.store (HY.out.fr.setK k5) rfl HN.out.1 (fun b o e => (HR.out b o e).1) HA.out
    rw [ez] at HZ0
    obtain ⟨g, hg⟩ : ∃ g : Fr, g = { f with k := k5 } := ⟨_, rfl⟩
    obtain ⟨yy, hyy⟩ : ∃ y, y = rr := ⟨_, rfl⟩
    have HZ : Hid (Held w w4.heap.size g yy r m K z) := by rw [hg, hyy]; exact HZ0
    clear HZ0 hyy fz
    clear hg
    obtain ⟨z1, ez1⟩ : ∃ x, z.alloc (.cells #[.int .i64 0, .int .i64 9, .int .i64 n] 2) = x := ⟨_, rfl⟩
    have Bz : Below z.heap.size z z1 := ez1 ▸ box_below z _
    have HH : Hid (Held w w4.heap.size g yy r m K z1) := HZ.out.grew Bz
    have HT : Hid (NumsAt .i64 z1 (some ⟨z.heap.size, 0, none⟩) 3 (clk n)) := by
      show NumsAt .i64 z1 _ 3 _
      rw [← ez1]
      exact fun _ => ⟨_, 0, rfl, fun i hi => by
        have hi : i = 0 ∨ i = 1 ∨ i = 2 := by omega
        rcases hi with rfl | rfl | rfl <;> (rw [World.cell?_alloc_at _ _ _ _ rfl]; rfl)⟩
    clear Bz HZ
    go_wp2_with fail
    generalize w4.heap.size = N at *
    clear ez ez1 fzj hsw e0 f0 f1 f2 f3 f4 f5 HY HU HO HA HR HN
    generalize z.heap.size = CB at *
    go_loopw [14] (fun i wr => ∃ k : Nat, k ≤ 3 ∧ i = .int .i64 k ∧ Hid (Below z1.heap.size z1 wr)) (fun i _ => 3 - (intOf i).toNat)
    case atStart => exact ⟨0, Nat.zero_le _, rfl, Below.refl _ _⟩
    case round =>
      obtain ⟨k, hk, rfl, hb⟩ := hrel
      by_cases hk3 : k < 3
      · have k1 : (k : Int) < 3 := by omega
        obtain ⟨E, hE⟩ : ∃ E, chk g yy m K (clk n k) 4 = E := ⟨_, rfl⟩
        have HE : Hid (chk g yy m K (clk n k) 4 = E) := hE
        have HC : Hid (∀ W, Below z1.heap.size z1 W → W.cell? ⟨CB, k, none⟩ = some (.int .i64 (clk n k))) := fun W hW => by
          have := nums_cell (HT.out.grew hW) k hk3
          rw [Nat.zero_add] at this
          exact this
        clear hE
        generalize clk n k = tk at *
        go_wp2_with fail
        refine wp_region_held (S := fun W => Held w N g yy r m K W ∧ W.cell? ⟨CB, k, none⟩ = some (.int .i64 tk)) (by kernel_rfl) ?_
        change wpAnyH _ _ _ _ _ _ _ _ wr.drew
        have hd : Below z1.heap.size z1 wr.drew := hb.out.drew
        have hr : Held w N g yy r m K wr.drew ∧ wr.drew.cell? ⟨CB, k, none⟩ = some (.int .i64 tk) := ⟨HH.out.grew hd, HC.out _ hd⟩
        have HD : Hid (Below z1.heap.size z1 wr.drew) := hd
        clear hb hd
        generalize wr.drew = w5 at *
        refine wpAnyH_take (i := 0) (v := .agg #[.int .u32 (g.id : Int), .int .i64 g.k, .slice g.a g.n g.c, .int .i64 g.s, .int .i64 g.p, .int .i64 g.d]) rfl (by kernel_rfl) (by kernel_rfl) (by kernel_rfl) (fun _ _ _ h => h) (Or.inl ⟨by kernel_rfl, fun W hW => by have g0 := hW.1.fr.c0; have g1 := hW.1.fr.c1; have g2 := hW.1.fr.c2; have g3 := hW.1.fr.c3; have g4 := hW.1.fr.c4; have g5 := hW.1.fr.c5; go_simp⟩) hr ?_
        refine wpAnyH_take (i := 1) (v := .slice r m cap) rfl (by kernel_rfl) (by kernel_rfl) (by kernel_rfl) (fun _ _ _ h => h) (Yields.yieldsIf (Or.inl ⟨by kernel_rfl, fun _ => by kernel_rfl⟩)) hr ?_
        refine wpAnyH_take (i := 2) (v := .slice (some ⟨CB, 0, none⟩) 3 3) rfl (by kernel_rfl) (by kernel_rfl) (by kernel_rfl) (fun _ _ _ h => h) (Yields.yieldsIf (Or.inl ⟨by kernel_rfl, fun _ => by kernel_rfl⟩)) hr ?_
        refine wpAnyH_take (i := 3) (v := .int .i64 (k : Int)) rfl (by kernel_rfl) (by kernel_rfl) (by kernel_rfl) (fun _ _ _ h => h) (Yields.yieldsIf (Or.inl ⟨by kernel_rfl, fun _ => by kernel_rfl⟩)) hr ?_
        refine wpAnyH_take (i := 4) (v := .pointer (some ⟨CB, k, none⟩)) rfl (by kernel_rfl) (by kernel_rfl) (by kernel_rfl) (fun _ _ _ h => h) (Yields.yieldsIf (Or.inl ⟨by kernel_rfl, fun _ => by go_simp⟩)) hr ?_
        refine wpAnyH_take (i := 5) (v := .int .i64 tk) rfl (by kernel_rfl) (by kernel_rfl) (by kernel_rfl) (fun _ _ _ h => h) (Or.inl ⟨by kernel_rfl, fun W hW => by have g0 := hW.2; go_simp⟩) hr ?_
        refine wpAnyH_take (i := 7) (v := .agg #[.int .u32 (g.id : Int), .int .i64 g.k, .slice g.a g.n g.c, .int .i64 g.s, .int .i64 g.p, .int .i64 g.d]) rfl (by kernel_rfl) (by kernel_rfl) (by kernel_rfl) (fun _ _ _ h => h) (Or.inl ⟨by kernel_rfl, fun W hW => by have g0 := hW.1.fr.c0; have g1 := hW.1.fr.c1; have g2 := hW.1.fr.c2; have g3 := hW.1.fr.c3; have g4 := hW.1.fr.c4; have g5 := hW.1.fr.c5; go_simp⟩) hr ?_
        refine wpAnyH_take (i := 8) (v := .slice r m cap) rfl (by kernel_rfl) (by kernel_rfl) (by kernel_rfl) (fun _ _ _ h => h) (Yields.yieldsIf (Or.inl ⟨by kernel_rfl, fun _ => by kernel_rfl⟩)) hr ?_
        refine wpAnyH_take (i := 9) (v := .slice (some ⟨CB, 0, none⟩) 3 3) rfl (by kernel_rfl) (by kernel_rfl) (by kernel_rfl) (fun _ _ _ h => h) (Yields.yieldsIf (Or.inl ⟨by kernel_rfl, fun _ => by kernel_rfl⟩)) hr ?_
        refine wpAnyH_take (i := 10) (v := .int .i64 (k : Int)) rfl (by kernel_rfl) (by kernel_rfl) (by kernel_rfl) (fun _ _ _ h => h) (Yields.yieldsIf (Or.inl ⟨by kernel_rfl, fun _ => by kernel_rfl⟩)) hr ?_
        refine wpAnyH_take (i := 11) (v := .pointer (some ⟨CB, k, none⟩)) rfl (by kernel_rfl) (by kernel_rfl) (by kernel_rfl) (fun _ _ _ h => h) (Yields.yieldsIf (Or.inl ⟨by kernel_rfl, fun _ => by go_simp⟩)) hr ?_
        refine wpAnyH_take (i := 12) (v := .int .i64 tk) rfl (by kernel_rfl) (by kernel_rfl) (by kernel_rfl) (fun _ _ _ h => h) (Or.inl ⟨by kernel_rfl, fun W hW => by have g0 := hW.2; go_simp⟩) hr ?_
        refine wpAnyH_ready (rs := [6]) (by kernel_rfl) (by simp) ?_
        refine AllReadyH.cons rfl (fun K2 hK2 => ?_) AllReadyH.nil
        go_simp
        refine Calls.mono (check_is (f := g) (r := yy) (K := K) (E := E) HE.out (by omega) hr.1.refs hr.1.frs) ?_
        rintro e w6 ⟨rfl, d6⟩
        have D6 := HD.out.trans (d6.mono HD.out.size)
        have hr := (⟨HH.out.grew D6, HC.out _ D6⟩ : Held w N g yy r m K w6 ∧ w6.cell? ⟨CB, k, none⟩ = some (.int .i64 tk))
        refine hK2.out _ _ hr (fun hr => ?_)
        have HD6 : Hid (Below z1.heap.size z1 w6) := D6
        clear hK2 K2 d6 D6
        refine wpAnyH_ready (rs := [13]) (by kernel_rfl) (by simp) ?_
        refine AllReadyH.cons rfl (fun K2 hK2 => ?_) AllReadyH.nil
        go_simp
        refine Calls.mono (HE.out ▸ rcheck_any g yy r m cap K tk 4 w6 (by omega) hr.1.refs hr.1.frs) ?_
        rintro e w7 ⟨rfl, d7⟩
        have D7 := HD6.out.trans (d7.mono HD6.out.size)
        have hr := (⟨HH.out.grew D7, HC.out _ D7⟩ : Held w N g yy r m K w7 ∧ w7.cell? ⟨CB, k, none⟩ = some (.int .i64 tk))
        refine hK2.out _ _ hr (fun hr => ?_)
        have HD7 : Hid (Below z1.heap.size z1 w7) := D7
        clear hK2 K2 d7 D7
        refine wpAnyH_take (i := 14) (v := .bool false) rfl (by kernel_rfl) (by kernel_rfl) (by kernel_rfl) (fun _ _ _ h => h) (Yields.yieldsIf (Or.inl ⟨by kernel_rfl, fun _ => by go_simp⟩)) hr ?_
        refine wpAnyH_done (by kernel_rfl) ?_ _
        clear hr
        go_wp2_with fail
        go_roundw
        case rel => exact ⟨k + 1, by omega, by go_num, HD7⟩
        case measure => simp [intOf]; omega
      · obtain rfl : k = 3 := by omega
        have HB : Hid (Below w.heap.size w wr) := (HH.out.grew hb.out).bel
        clear hb
        go_wp2
        go_ret
        exact ⟨rfl, HB.out⟩
  have a0 : ((sw : Int) == 0) = false := by simp; omega
  clear h0
  by_cases h1 : sw = 1
  · have a1 : ((sw : Int) == 1) = true := by simp [h1]
    clear h1
    obtain ⟨z, ez⟩ : ∃ x, y0.setCell ⟨w4.heap.size, 4, none⟩ (.int .i64 n) = x := ⟨_, rfl⟩
    have fzj := fz 4
    have HZ0 := HY.out.store (HY.out.fr.setP n) rfl HN.out.1 (fun b o e => (HR.out b o e).1) HA.out
    rw [ez] at HZ0
    obtain ⟨g, hg⟩ : ∃ g : Fr, g = { f with p := n } := ⟨_, rfl⟩
    obtain ⟨yy, hyy⟩ : ∃ y, y = rr := ⟨_, rfl⟩
    have HZ : Hid (Held w w4.heap.size g yy r m K z) := by rw [hg, hyy]; exact HZ0
    clear HZ0 hyy fz
    clear hg
    obtain ⟨z1, ez1⟩ : ∃ x, z.alloc (.cells #[.int .i64 0, .int .i64 9, .int .i64 n] 2) = x := ⟨_, rfl⟩
    have Bz : Below z.heap.size z z1 := ez1 ▸ box_below z _
    have HH : Hid (Held w w4.heap.size g yy r m K z1) := HZ.out.grew Bz
    have HT : Hid (NumsAt .i64 z1 (some ⟨z.heap.size, 0, none⟩) 3 (clk n)) := by
      show NumsAt .i64 z1 _ 3 _
      rw [← ez1]
      exact fun _ => ⟨_, 0, rfl, fun i hi => by
        have hi : i = 0 ∨ i = 1 ∨ i = 2 := by omega
        rcases hi with rfl | rfl | rfl <;> (rw [World.cell?_alloc_at _ _ _ _ rfl]; rfl)⟩
    clear Bz HZ
    go_wp2_with fail
    generalize w4.heap.size = N at *
    clear ez ez1 fzj hsw e0 f0 f1 f2 f3 f4 f5 HY HU HO HA HR HN
    generalize z.heap.size = CB at *
    go_loopw [14] (fun i wr => ∃ k : Nat, k ≤ 3 ∧ i = .int .i64 k ∧ Hid (Below z1.heap.size z1 wr)) (fun i _ => 3 - (intOf i).toNat)
    case atStart => exact ⟨0, Nat.zero_le _, rfl, Below.refl _ _⟩
    case round =>
      obtain ⟨k, hk, rfl, hb⟩ := hrel
      by_cases hk3 : k < 3
      · have k1 : (k : Int) < 3 := by omega
        obtain ⟨E, hE⟩ : ∃ E, chk g yy m K (clk n k) 4 = E := ⟨_, rfl⟩
        have HE : Hid (chk g yy m K (clk n k) 4 = E) := hE
        have HC : Hid (∀ W, Below z1.heap.size z1 W → W.cell? ⟨CB, k, none⟩ = some (.int .i64 (clk n k))) := fun W hW => by
          have := nums_cell (HT.out.grew hW) k hk3
          rw [Nat.zero_add] at this
          exact this
        clear hE
        generalize clk n k = tk at *
        go_wp2_with fail
        refine wp_region_held (S := fun W => Held w N g yy r m K W ∧ W.cell? ⟨CB, k, none⟩ = some (.int .i64 tk)) (by kernel_rfl) ?_
        change wpAnyH _ _ _ _ _ _ _ _ wr.drew
        have hd : Below z1.heap.size z1 wr.drew := hb.out.drew
        have hr : Held w N g yy r m K wr.drew ∧ wr.drew.cell? ⟨CB, k, none⟩ = some (.int .i64 tk) := ⟨HH.out.grew hd, HC.out _ hd⟩
        have HD : Hid (Below z1.heap.size z1 wr.drew) := hd
        clear hb hd
        generalize wr.drew = w5 at *
        refine wpAnyH_take (i := 0) (v := .agg #[.int .u32 (g.id : Int), .int .i64 g.k, .slice g.a g.n g.c, .int .i64 g.s, .int .i64 g.p, .int .i64 g.d]) rfl (by kernel_rfl) (by kernel_rfl) (by kernel_rfl) (fun _ _ _ h => h) (Or.inl ⟨by kernel_rfl, fun W hW => by have g0 := hW.1.fr.c0; have g1 := hW.1.fr.c1; have g2 := hW.1.fr.c2; have g3 := hW.1.fr.c3; have g4 := hW.1.fr.c4; have g5 := hW.1.fr.c5; go_simp⟩) hr ?_
        refine wpAnyH_take (i := 1) (v := .slice r m cap) rfl (by kernel_rfl) (by kernel_rfl) (by kernel_rfl) (fun _ _ _ h => h) (Yields.yieldsIf (Or.inl ⟨by kernel_rfl, fun _ => by kernel_rfl⟩)) hr ?_
        refine wpAnyH_take (i := 2) (v := .slice (some ⟨CB, 0, none⟩) 3 3) rfl (by kernel_rfl) (by kernel_rfl) (by kernel_rfl) (fun _ _ _ h => h) (Yields.yieldsIf (Or.inl ⟨by kernel_rfl, fun _ => by kernel_rfl⟩)) hr ?_
        refine wpAnyH_take (i := 3) (v := .int .i64 (k : Int)) rfl (by kernel_rfl) (by kernel_rfl) (by kernel_rfl) (fun _ _ _ h => h) (Yields.yieldsIf (Or.inl ⟨by kernel_rfl, fun _ => by kernel_rfl⟩)) hr ?_
        refine wpAnyH_take (i := 4) (v := .pointer (some ⟨CB, k, none⟩)) rfl (by kernel_rfl) (by kernel_rfl) (by kernel_rfl) (fun _ _ _ h => h) (Yields.yieldsIf (Or.inl ⟨by kernel_rfl, fun _ => by go_simp⟩)) hr ?_
        refine wpAnyH_take (i := 5) (v := .int .i64 tk) rfl (by kernel_rfl) (by kernel_rfl) (by kernel_rfl) (fun _ _ _ h => h) (Or.inl ⟨by kernel_rfl, fun W hW => by have g0 := hW.2; go_simp⟩) hr ?_
        refine wpAnyH_take (i := 7) (v := .agg #[.int .u32 (g.id : Int), .int .i64 g.k, .slice g.a g.n g.c, .int .i64 g.s, .int .i64 g.p, .int .i64 g.d]) rfl (by kernel_rfl) (by kernel_rfl) (by kernel_rfl) (fun _ _ _ h => h) (Or.inl ⟨by kernel_rfl, fun W hW => by have g0 := hW.1.fr.c0; have g1 := hW.1.fr.c1; have g2 := hW.1.fr.c2; have g3 := hW.1.fr.c3; have g4 := hW.1.fr.c4; have g5 := hW.1.fr.c5; go_simp⟩) hr ?_
        refine wpAnyH_take (i := 8) (v := .slice r m cap) rfl (by kernel_rfl) (by kernel_rfl) (by kernel_rfl) (fun _ _ _ h => h) (Yields.yieldsIf (Or.inl ⟨by kernel_rfl, fun _ => by kernel_rfl⟩)) hr ?_
        refine wpAnyH_take (i := 9) (v := .slice (some ⟨CB, 0, none⟩) 3 3) rfl (by kernel_rfl) (by kernel_rfl) (by kernel_rfl) (fun _ _ _ h => h) (Yields.yieldsIf (Or.inl ⟨by kernel_rfl, fun _ => by kernel_rfl⟩)) hr ?_
        refine wpAnyH_take (i := 10) (v := .int .i64 (k : Int)) rfl (by kernel_rfl) (by kernel_rfl) (by kernel_rfl) (fun _ _ _ h => h) (Yields.yieldsIf (Or.inl ⟨by kernel_rfl, fun _ => by kernel_rfl⟩)) hr ?_
        refine wpAnyH_take (i := 11) (v := .pointer (some ⟨CB, k, none⟩)) rfl (by kernel_rfl) (by kernel_rfl) (by kernel_rfl) (fun _ _ _ h => h) (Yields.yieldsIf (Or.inl ⟨by kernel_rfl, fun _ => by go_simp⟩)) hr ?_
        refine wpAnyH_take (i := 12) (v := .int .i64 tk) rfl (by kernel_rfl) (by kernel_rfl) (by kernel_rfl) (fun _ _ _ h => h) (Or.inl ⟨by kernel_rfl, fun W hW => by have g0 := hW.2; go_simp⟩) hr ?_
        refine wpAnyH_ready (rs := [6]) (by kernel_rfl) (by simp) ?_
        refine AllReadyH.cons rfl (fun K2 hK2 => ?_) AllReadyH.nil
        go_simp
        refine Calls.mono (check_is (f := g) (r := yy) (K := K) (E := E) HE.out (by omega) hr.1.refs hr.1.frs) ?_
        rintro e w6 ⟨rfl, d6⟩
        have D6 := HD.out.trans (d6.mono HD.out.size)
        have hr := (⟨HH.out.grew D6, HC.out _ D6⟩ : Held w N g yy r m K w6 ∧ w6.cell? ⟨CB, k, none⟩ = some (.int .i64 tk))
        refine hK2.out _ _ hr (fun hr => ?_)
        have HD6 : Hid (Below z1.heap.size z1 w6) := D6
        clear hK2 K2 d6 D6
        refine wpAnyH_ready (rs := [13]) (by kernel_rfl) (by simp) ?_
        refine AllReadyH.cons rfl (fun K2 hK2 => ?_) AllReadyH.nil
        go_simp
        refine Calls.mono (HE.out ▸ rcheck_any g yy r m cap K tk 4 w6 (by omega) hr.1.refs hr.1.frs) ?_
        rintro e w7 ⟨rfl, d7⟩
        have D7 := HD6.out.trans (d7.mono HD6.out.size)
        have hr := (⟨HH.out.grew D7, HC.out _ D7⟩ : Held w N g yy r m K w7 ∧ w7.cell? ⟨CB, k, none⟩ = some (.int .i64 tk))
        refine hK2.out _ _ hr (fun hr => ?_)
        have HD7 : Hid (Below z1.heap.size z1 w7) := D7
        clear hK2 K2 d7 D7
        refine wpAnyH_take (i := 14) (v := .bool false) rfl (by kernel_rfl) (by kernel_rfl) (by kernel_rfl) (fun _ _ _ h => h) (Yields.yieldsIf (Or.inl ⟨by kernel_rfl, fun _ => by go_simp⟩)) hr ?_
        refine wpAnyH_done (by kernel_rfl) ?_ _
        clear hr
        go_wp2_with fail
        go_roundw
        case rel => exact ⟨k + 1, by omega, by go_num, HD7⟩
        case measure => simp [intOf]; omega
      · obtain rfl : k = 3 := by omega
        have HB : Hid (Below w.heap.size w wr) := (HH.out.grew hb.out).bel
        clear hb
        go_wp2
        go_ret
        exact ⟨rfl, HB.out⟩
  have a1 : ((sw : Int) == 1) = false := by simp; omega
  clear h1
  by_cases h2 : sw = 2
  · have a2 : ((sw : Int) == 2) = true := by simp [h2]
    clear h2
    obtain ⟨z, ez⟩ : ∃ x, y0.setCell ⟨w4.heap.size, 5, none⟩ (.int .i64 n) = x := ⟨_, rfl⟩
    have fzj := fz 5
    have HZ0 := HY.out.store (HY.out.fr.setD n) rfl HN.out.1 (fun b o e => (HR.out b o e).1) HA.out
    rw [ez] at HZ0
    obtain ⟨g, hg⟩ : ∃ g : Fr, g = { f with d := n } := ⟨_, rfl⟩
    obtain ⟨yy, hyy⟩ : ∃ y, y = rr := ⟨_, rfl⟩
    have HZ : Hid (Held w w4.heap.size g yy r m K z) := by rw [hg, hyy]; exact HZ0
    clear HZ0 hyy fz
    clear hg
    obtain ⟨z1, ez1⟩ : ∃ x, z.alloc (.cells #[.int .i64 0, .int .i64 9, .int .i64 n] 2) = x := ⟨_, rfl⟩
    have Bz : Below z.heap.size z z1 := ez1 ▸ box_below z _
    have HH : Hid (Held w w4.heap.size g yy r m K z1) := HZ.out.grew Bz
    have HT : Hid (NumsAt .i64 z1 (some ⟨z.heap.size, 0, none⟩) 3 (clk n)) := by
      show NumsAt .i64 z1 _ 3 _
      rw [← ez1]
      exact fun _ => ⟨_, 0, rfl, fun i hi => by
        have hi : i = 0 ∨ i = 1 ∨ i = 2 := by omega
        rcases hi with rfl | rfl | rfl <;> (rw [World.cell?_alloc_at _ _ _ _ rfl]; rfl)⟩
    clear Bz HZ
    go_wp2_with fail
    generalize w4.heap.size = N at *
    clear ez ez1 fzj hsw e0 f0 f1 f2 f3 f4 f5 HY HU HO HA HR HN
    generalize z.heap.size = CB at *
    go_loopw [14] (fun i wr => ∃ k : Nat, k ≤ 3 ∧ i = .int .i64 k ∧ Hid (Below z1.heap.size z1 wr)) (fun i _ => 3 - (intOf i).toNat)
    case atStart => exact ⟨0, Nat.zero_le _, rfl, Below.refl _ _⟩
    case round =>
      obtain ⟨k, hk, rfl, hb⟩ := hrel
      by_cases hk3 : k < 3
      · have k1 : (k : Int) < 3 := by omega
        obtain ⟨E, hE⟩ : ∃ E, chk g yy m K (clk n k) 4 = E := ⟨_, rfl⟩
        have HE : Hid (chk g yy m K (clk n k) 4 = E) := hE
        have HC : Hid (∀ W, Below z1.heap.size z1 W → W.cell? ⟨CB, k, none⟩ = some (.int .i64 (clk n k))) := fun W hW => by
          have := nums_cell (HT.out.grew hW) k hk3
          rw [Nat.zero_add] at this
          exact this
        clear hE
        generalize clk n k = tk at *
        go_wp2_with fail
        refine wp_region_held (S := fun W => Held w N g yy r m K W ∧ W.cell? ⟨CB, k, none⟩ = some (.int .i64 tk)) (by kernel_rfl) ?_
        change wpAnyH _ _ _ _ _ _ _ _ wr.drew
        have hd : Below z1.heap.size z1 wr.drew := hb.out.drew
        have hr : Held w N g yy r m K wr.drew ∧ wr.drew.cell? ⟨CB, k, none⟩ = some (.int .i64 tk) := ⟨HH.out.grew hd, HC.out _ hd⟩
        have HD : Hid (Below z1.heap.size z1 wr.drew) := hd
        clear hb hd
        generalize wr.drew = w5 at *
        refine wpAnyH_take (i := 0) (v := .agg #[.int .u32 (g.id : Int), .int .i64 g.k, .slice g.a g.n g.c, .int .i64 g.s, .int .i64 g.p, .int .i64 g.d]) rfl (by kernel_rfl) (by kernel_rfl) (by kernel_rfl) (fun _ _ _ h => h) (Or.inl ⟨by kernel_rfl, fun W hW => by have g0 := hW.1.fr.c0; have g1 := hW.1.fr.c1; have g2 := hW.1.fr.c2; have g3 := hW.1.fr.c3; have g4 := hW.1.fr.c4; have g5 := hW.1.fr.c5; go_simp⟩) hr ?_
        refine wpAnyH_take (i := 1) (v := .slice r m cap) rfl (by kernel_rfl) (by kernel_rfl) (by kernel_rfl) (fun _ _ _ h => h) (Yields.yieldsIf (Or.inl ⟨by kernel_rfl, fun _ => by kernel_rfl⟩)) hr ?_
        refine wpAnyH_take (i := 2) (v := .slice (some ⟨CB, 0, none⟩) 3 3) rfl (by kernel_rfl) (by kernel_rfl) (by kernel_rfl) (fun _ _ _ h => h) (Yields.yieldsIf (Or.inl ⟨by kernel_rfl, fun _ => by kernel_rfl⟩)) hr ?_
        refine wpAnyH_take (i := 3) (v := .int .i64 (k : Int)) rfl (by kernel_rfl) (by kernel_rfl) (by kernel_rfl) (fun _ _ _ h => h) (Yields.yieldsIf (Or.inl ⟨by kernel_rfl, fun _ => by kernel_rfl⟩)) hr ?_
        refine wpAnyH_take (i := 4) (v := .pointer (some ⟨CB, k, none⟩)) rfl (by kernel_rfl) (by kernel_rfl) (by kernel_rfl) (fun _ _ _ h => h) (Yields.yieldsIf (Or.inl ⟨by kernel_rfl, fun _ => by go_simp⟩)) hr ?_
        refine wpAnyH_take (i := 5) (v := .int .i64 tk) rfl (by kernel_rfl) (by kernel_rfl) (by kernel_rfl) (fun _ _ _ h => h) (Or.inl ⟨by kernel_rfl, fun W hW => by have g0 := hW.2; go_simp⟩) hr ?_
        refine wpAnyH_take (i := 7) (v := .agg #[.int .u32 (g.id : Int), .int .i64 g.k, .slice g.a g.n g.c, .int .i64 g.s, .int .i64 g.p, .int .i64 g.d]) rfl (by kernel_rfl) (by kernel_rfl) (by kernel_rfl) (fun _ _ _ h => h) (Or.inl ⟨by kernel_rfl, fun W hW => by have g0 := hW.1.fr.c0; have g1 := hW.1.fr.c1; have g2 := hW.1.fr.c2; have g3 := hW.1.fr.c3; have g4 := hW.1.fr.c4; have g5 := hW.1.fr.c5; go_simp⟩) hr ?_
        refine wpAnyH_take (i := 8) (v := .slice r m cap) rfl (by kernel_rfl) (by kernel_rfl) (by kernel_rfl) (fun _ _ _ h => h) (Yields.yieldsIf (Or.inl ⟨by kernel_rfl, fun _ => by kernel_rfl⟩)) hr ?_
        refine wpAnyH_take (i := 9) (v := .slice (some ⟨CB, 0, none⟩) 3 3) rfl (by kernel_rfl) (by kernel_rfl) (by kernel_rfl) (fun _ _ _ h => h) (Yields.yieldsIf (Or.inl ⟨by kernel_rfl, fun _ => by kernel_rfl⟩)) hr ?_
        refine wpAnyH_take (i := 10) (v := .int .i64 (k : Int)) rfl (by kernel_rfl) (by kernel_rfl) (by kernel_rfl) (fun _ _ _ h => h) (Yields.yieldsIf (Or.inl ⟨by kernel_rfl, fun _ => by kernel_rfl⟩)) hr ?_
        refine wpAnyH_take (i := 11) (v := .pointer (some ⟨CB, k, none⟩)) rfl (by kernel_rfl) (by kernel_rfl) (by kernel_rfl) (fun _ _ _ h => h) (Yields.yieldsIf (Or.inl ⟨by kernel_rfl, fun _ => by go_simp⟩)) hr ?_
        refine wpAnyH_take (i := 12) (v := .int .i64 tk) rfl (by kernel_rfl) (by kernel_rfl) (by kernel_rfl) (fun _ _ _ h => h) (Or.inl ⟨by kernel_rfl, fun W hW => by have g0 := hW.2; go_simp⟩) hr ?_
        refine wpAnyH_ready (rs := [6]) (by kernel_rfl) (by simp) ?_
        refine AllReadyH.cons rfl (fun K2 hK2 => ?_) AllReadyH.nil
        go_simp
        refine Calls.mono (check_is (f := g) (r := yy) (K := K) (E := E) HE.out (by omega) hr.1.refs hr.1.frs) ?_
        rintro e w6 ⟨rfl, d6⟩
        have D6 := HD.out.trans (d6.mono HD.out.size)
        have hr := (⟨HH.out.grew D6, HC.out _ D6⟩ : Held w N g yy r m K w6 ∧ w6.cell? ⟨CB, k, none⟩ = some (.int .i64 tk))
        refine hK2.out _ _ hr (fun hr => ?_)
        have HD6 : Hid (Below z1.heap.size z1 w6) := D6
        clear hK2 K2 d6 D6
        refine wpAnyH_ready (rs := [13]) (by kernel_rfl) (by simp) ?_
        refine AllReadyH.cons rfl (fun K2 hK2 => ?_) AllReadyH.nil
        go_simp
        refine Calls.mono (HE.out ▸ rcheck_any g yy r m cap K tk 4 w6 (by omega) hr.1.refs hr.1.frs) ?_
        rintro e w7 ⟨rfl, d7⟩
        have D7 := HD6.out.trans (d7.mono HD6.out.size)
        have hr := (⟨HH.out.grew D7, HC.out _ D7⟩ : Held w N g yy r m K w7 ∧ w7.cell? ⟨CB, k, none⟩ = some (.int .i64 tk))
        refine hK2.out _ _ hr (fun hr => ?_)
        have HD7 : Hid (Below z1.heap.size z1 w7) := D7
        clear hK2 K2 d7 D7
        refine wpAnyH_take (i := 14) (v := .bool false) rfl (by kernel_rfl) (by kernel_rfl) (by kernel_rfl) (fun _ _ _ h => h) (Yields.yieldsIf (Or.inl ⟨by kernel_rfl, fun _ => by go_simp⟩)) hr ?_
        refine wpAnyH_done (by kernel_rfl) ?_ _
        clear hr
        go_wp2_with fail
        go_roundw
        case rel => exact ⟨k + 1, by omega, by go_num, HD7⟩
        case measure => simp [intOf]; omega
      · obtain rfl : k = 3 := by omega
        have HB : Hid (Below w.heap.size w wr) := (HH.out.grew hb.out).bel
        clear hb
        go_wp2
        go_ret
        exact ⟨rfl, HB.out⟩
  have a2 : ((sw : Int) == 2) = false := by simp; omega
  clear h2
  by_cases h3 : sw = 3
  · have a3 : ((sw : Int) == 3) = true := by simp [h3]
    clear h3
    obtain ⟨z, ez⟩ : ∃ x, y0.setCell ⟨w4.heap.size, 3, none⟩ (.int .i64 k200) = x := ⟨_, rfl⟩
    have fzj := fz 3
    have HZ0 := HY.out.store (HY.out.fr.setS k200) rfl HN.out.1 (fun b o e => (HR.out b o e).1) HA.out
    rw [ez] at HZ0
    obtain ⟨g, hg⟩ : ∃ g : Fr, g = { f with s := k200 } := ⟨_, rfl⟩
    obtain ⟨yy, hyy⟩ : ∃ y, y = rr := ⟨_, rfl⟩
    have HZ : Hid (Held w w4.heap.size g yy r m K z) := by rw [hg, hyy]; exact HZ0
    clear HZ0 hyy fz
    clear hg
    obtain ⟨z1, ez1⟩ : ∃ x, z.alloc (.cells #[.int .i64 0, .int .i64 9, .int .i64 n] 2) = x := ⟨_, rfl⟩
    have Bz : Below z.heap.size z z1 := ez1 ▸ box_below z _
    have HH : Hid (Held w w4.heap.size g yy r m K z1) := HZ.out.grew Bz
    have HT : Hid (NumsAt .i64 z1 (some ⟨z.heap.size, 0, none⟩) 3 (clk n)) := by
      show NumsAt .i64 z1 _ 3 _
      rw [← ez1]
      exact fun _ => ⟨_, 0, rfl, fun i hi => by
        have hi : i = 0 ∨ i = 1 ∨ i = 2 := by omega
        rcases hi with rfl | rfl | rfl <;> (rw [World.cell?_alloc_at _ _ _ _ rfl]; rfl)⟩
    clear Bz HZ
    go_wp2_with fail
    generalize w4.heap.size = N at *
    clear ez ez1 fzj hsw e0 f0 f1 f2 f3 f4 f5 HY HU HO HA HR HN
    generalize z.heap.size = CB at *
    go_loopw [14] (fun i wr => ∃ k : Nat, k ≤ 3 ∧ i = .int .i64 k ∧ Hid (Below z1.heap.size z1 wr)) (fun i _ => 3 - (intOf i).toNat)
    case atStart => exact ⟨0, Nat.zero_le _, rfl, Below.refl _ _⟩
    case round =>
      obtain ⟨k, hk, rfl, hb⟩ := hrel
      by_cases hk3 : k < 3
      · have k1 : (k : Int) < 3 := by omega
        obtain ⟨E, hE⟩ : ∃ E, chk g yy m K (clk n k) 4 = E := ⟨_, rfl⟩
        have HE : Hid (chk g yy m K (clk n k) 4 = E) := hE
        have HC : Hid (∀ W, Below z1.heap.size z1 W → W.cell? ⟨CB, k, none⟩ = some (.int .i64 (clk n k))) := fun W hW => by
          have := nums_cell (HT.out.grew hW) k hk3
          rw [Nat.zero_add] at this
          exact this
        clear hE
        generalize clk n k = tk at *
        go_wp2_with fail
        refine wp_region_held (S := fun W => Held w N g yy r m K W ∧ W.cell? ⟨CB, k, none⟩ = some (.int .i64 tk)) (by kernel_rfl) ?_
        change wpAnyH _ _ _ _ _ _ _ _ wr.drew
        have hd : Below z1.heap.size z1 wr.drew := hb.out.drew
        have hr : Held w N g yy r m K wr.drew ∧ wr.drew.cell? ⟨CB, k, none⟩ = some (.int .i64 tk) := ⟨HH.out.grew hd, HC.out _ hd⟩
        have HD : Hid (Below z1.heap.size z1 wr.drew) := hd
        clear hb hd
        generalize wr.drew = w5 at *
        refine wpAnyH_take (i := 0) (v := .agg #[.int .u32 (g.id : Int), .int .i64 g.k, .slice g.a g.n g.c, .int .i64 g.s, .int .i64 g.p, .int .i64 g.d]) rfl (by kernel_rfl) (by kernel_rfl) (by kernel_rfl) (fun _ _ _ h => h) (Or.inl ⟨by kernel_rfl, fun W hW => by have g0 := hW.1.fr.c0; have g1 := hW.1.fr.c1; have g2 := hW.1.fr.c2; have g3 := hW.1.fr.c3; have g4 := hW.1.fr.c4; have g5 := hW.1.fr.c5; go_simp⟩) hr ?_
        refine wpAnyH_take (i := 1) (v := .slice r m cap) rfl (by kernel_rfl) (by kernel_rfl) (by kernel_rfl) (fun _ _ _ h => h) (Yields.yieldsIf (Or.inl ⟨by kernel_rfl, fun _ => by kernel_rfl⟩)) hr ?_
        refine wpAnyH_take (i := 2) (v := .slice (some ⟨CB, 0, none⟩) 3 3) rfl (by kernel_rfl) (by kernel_rfl) (by kernel_rfl) (fun _ _ _ h => h) (Yields.yieldsIf (Or.inl ⟨by kernel_rfl, fun _ => by kernel_rfl⟩)) hr ?_
        refine wpAnyH_take (i := 3) (v := .int .i64 (k : Int)) rfl (by kernel_rfl) (by kernel_rfl) (by kernel_rfl) (fun _ _ _ h => h) (Yields.yieldsIf (Or.inl ⟨by kernel_rfl, fun _ => by kernel_rfl⟩)) hr ?_
        refine wpAnyH_take (i := 4) (v := .pointer (some ⟨CB, k, none⟩)) rfl (by kernel_rfl) (by kernel_rfl) (by kernel_rfl) (fun _ _ _ h => h) (Yields.yieldsIf (Or.inl ⟨by kernel_rfl, fun _ => by go_simp⟩)) hr ?_
        refine wpAnyH_take (i := 5) (v := .int .i64 tk) rfl (by kernel_rfl) (by kernel_rfl) (by kernel_rfl) (fun _ _ _ h => h) (Or.inl ⟨by kernel_rfl, fun W hW => by have g0 := hW.2; go_simp⟩) hr ?_
        refine wpAnyH_take (i := 7) (v := .agg #[.int .u32 (g.id : Int), .int .i64 g.k, .slice g.a g.n g.c, .int .i64 g.s, .int .i64 g.p, .int .i64 g.d]) rfl (by kernel_rfl) (by kernel_rfl) (by kernel_rfl) (fun _ _ _ h => h) (Or.inl ⟨by kernel_rfl, fun W hW => by have g0 := hW.1.fr.c0; have g1 := hW.1.fr.c1; have g2 := hW.1.fr.c2; have g3 := hW.1.fr.c3; have g4 := hW.1.fr.c4; have g5 := hW.1.fr.c5; go_simp⟩) hr ?_
        refine wpAnyH_take (i := 8) (v := .slice r m cap) rfl (by kernel_rfl) (by kernel_rfl) (by kernel_rfl) (fun _ _ _ h => h) (Yields.yieldsIf (Or.inl ⟨by kernel_rfl, fun _ => by kernel_rfl⟩)) hr ?_
        refine wpAnyH_take (i := 9) (v := .slice (some ⟨CB, 0, none⟩) 3 3) rfl (by kernel_rfl) (by kernel_rfl) (by kernel_rfl) (fun _ _ _ h => h) (Yields.yieldsIf (Or.inl ⟨by kernel_rfl, fun _ => by kernel_rfl⟩)) hr ?_
        refine wpAnyH_take (i := 10) (v := .int .i64 (k : Int)) rfl (by kernel_rfl) (by kernel_rfl) (by kernel_rfl) (fun _ _ _ h => h) (Yields.yieldsIf (Or.inl ⟨by kernel_rfl, fun _ => by kernel_rfl⟩)) hr ?_
        refine wpAnyH_take (i := 11) (v := .pointer (some ⟨CB, k, none⟩)) rfl (by kernel_rfl) (by kernel_rfl) (by kernel_rfl) (fun _ _ _ h => h) (Yields.yieldsIf (Or.inl ⟨by kernel_rfl, fun _ => by go_simp⟩)) hr ?_
        refine wpAnyH_take (i := 12) (v := .int .i64 tk) rfl (by kernel_rfl) (by kernel_rfl) (by kernel_rfl) (fun _ _ _ h => h) (Or.inl ⟨by kernel_rfl, fun W hW => by have g0 := hW.2; go_simp⟩) hr ?_
        refine wpAnyH_ready (rs := [6]) (by kernel_rfl) (by simp) ?_
        refine AllReadyH.cons rfl (fun K2 hK2 => ?_) AllReadyH.nil
        go_simp
        refine Calls.mono (check_is (f := g) (r := yy) (K := K) (E := E) HE.out (by omega) hr.1.refs hr.1.frs) ?_
        rintro e w6 ⟨rfl, d6⟩
        have D6 := HD.out.trans (d6.mono HD.out.size)
        have hr := (⟨HH.out.grew D6, HC.out _ D6⟩ : Held w N g yy r m K w6 ∧ w6.cell? ⟨CB, k, none⟩ = some (.int .i64 tk))
        refine hK2.out _ _ hr (fun hr => ?_)
        have HD6 : Hid (Below z1.heap.size z1 w6) := D6
        clear hK2 K2 d6 D6
        refine wpAnyH_ready (rs := [13]) (by kernel_rfl) (by simp) ?_
        refine AllReadyH.cons rfl (fun K2 hK2 => ?_) AllReadyH.nil
        go_simp
        refine Calls.mono (HE.out ▸ rcheck_any g yy r m cap K tk 4 w6 (by omega) hr.1.refs hr.1.frs) ?_
        rintro e w7 ⟨rfl, d7⟩
        have D7 := HD6.out.trans (d7.mono HD6.out.size)
        have hr := (⟨HH.out.grew D7, HC.out _ D7⟩ : Held w N g yy r m K w7 ∧ w7.cell? ⟨CB, k, none⟩ = some (.int .i64 tk))
        refine hK2.out _ _ hr (fun hr => ?_)
        have HD7 : Hid (Below z1.heap.size z1 w7) := D7
        clear hK2 K2 d7 D7
        refine wpAnyH_take (i := 14) (v := .bool false) rfl (by kernel_rfl) (by kernel_rfl) (by kernel_rfl) (fun _ _ _ h => h) (Yields.yieldsIf (Or.inl ⟨by kernel_rfl, fun _ => by go_simp⟩)) hr ?_
        refine wpAnyH_done (by kernel_rfl) ?_ _
        clear hr
        go_wp2_with fail
        go_roundw
        case rel => exact ⟨k + 1, by omega, by go_num, HD7⟩
        case measure => simp [intOf]; omega
      · obtain rfl : k = 3 := by omega
        have HB : Hid (Below w.heap.size w wr) := (HH.out.grew hb.out).bel
        clear hb
        go_wp2
        go_ret
        exact ⟨rfl, HB.out⟩
  have a3 : ((sw : Int) == 3) = false := by simp; omega
  clear h3
  by_cases h4 : sw = 4
  · have a4 : ((sw : Int) == 4) = true := by simp [h4]
    clear h4
    obtain ⟨z, ez⟩ : ∃ x, y0.setCell ⟨w4.heap.size, 0, none⟩ (.int .u32 (ru : Int)) = x := ⟨_, rfl⟩
    have fzj := fz 0
    have HZ0 := HY.out.store (HY.out.fr.setId ru) rfl HN.out.1 (fun b o e => (HR.out b o e).1) HA.out
    rw [ez] at HZ0
    obtain ⟨g, hg⟩ : ∃ g : Fr, g = { f with id := ru } := ⟨_, rfl⟩
    obtain ⟨yy, hyy⟩ : ∃ y, y = rr := ⟨_, rfl⟩
    have HZ : Hid (Held w w4.heap.size g yy r m K z) := by rw [hg, hyy]; exact HZ0
    clear HZ0 hyy fz
    clear hg
    obtain ⟨z1, ez1⟩ : ∃ x, z.alloc (.cells #[.int .i64 0, .int .i64 9, .int .i64 n] 2) = x := ⟨_, rfl⟩
    have Bz : Below z.heap.size z z1 := ez1 ▸ box_below z _
    have HH : Hid (Held w w4.heap.size g yy r m K z1) := HZ.out.grew Bz
    have HT : Hid (NumsAt .i64 z1 (some ⟨z.heap.size, 0, none⟩) 3 (clk n)) := by
      show NumsAt .i64 z1 _ 3 _
      rw [← ez1]
      exact fun _ => ⟨_, 0, rfl, fun i hi => by
        have hi : i = 0 ∨ i = 1 ∨ i = 2 := by omega
        rcases hi with rfl | rfl | rfl <;> (rw [World.cell?_alloc_at _ _ _ _ rfl]; rfl)⟩
    clear Bz HZ
    go_wp2_with fail
    generalize w4.heap.size = N at *
    clear ez ez1 fzj hsw e0 f0 f1 f2 f3 f4 f5 HY HU HO HA HR HN
    generalize z.heap.size = CB at *
    go_loopw [14] (fun i wr => ∃ k : Nat, k ≤ 3 ∧ i = .int .i64 k ∧ Hid (Below z1.heap.size z1 wr)) (fun i _ => 3 - (intOf i).toNat)
    case atStart => exact ⟨0, Nat.zero_le _, rfl, Below.refl _ _⟩
    case round =>
      obtain ⟨k, hk, rfl, hb⟩ := hrel
      by_cases hk3 : k < 3
      · have k1 : (k : Int) < 3 := by omega
        obtain ⟨E, hE⟩ : ∃ E, chk g yy m K (clk n k) 4 = E := ⟨_, rfl⟩
        have HE : Hid (chk g yy m K (clk n k) 4 = E) := hE
        have HC : Hid (∀ W, Below z1.heap.size z1 W → W.cell? ⟨CB, k, none⟩ = some (.int .i64 (clk n k))) := fun W hW => by
          have := nums_cell (HT.out.grew hW) k hk3
          rw [Nat.zero_add] at this
          exact this
        clear hE
        generalize clk n k = tk at *
        go_wp2_with fail
        refine wp_region_held (S := fun W => Held w N g yy r m K W ∧ W.cell? ⟨CB, k, none⟩ = some (.int .i64 tk)) (by kernel_rfl) ?_
        change wpAnyH _ _ _ _ _ _ _ _ wr.drew
        have hd : Below z1.heap.size z1 wr.drew := hb.out.drew
        have hr : Held w N g yy r m K wr.drew ∧ wr.drew.cell? ⟨CB, k, none⟩ = some (.int .i64 tk) := ⟨HH.out.grew hd, HC.out _ hd⟩
        have HD : Hid (Below z1.heap.size z1 wr.drew) := hd
        clear hb hd
        generalize wr.drew = w5 at *
        refine wpAnyH_take (i := 0) (v := .agg #[.int .u32 (g.id : Int), .int .i64 g.k, .slice g.a g.n g.c, .int .i64 g.s, .int .i64 g.p, .int .i64 g.d]) rfl (by kernel_rfl) (by kernel_rfl) (by kernel_rfl) (fun _ _ _ h => h) (Or.inl ⟨by kernel_rfl, fun W hW => by have g0 := hW.1.fr.c0; have g1 := hW.1.fr.c1; have g2 := hW.1.fr.c2; have g3 := hW.1.fr.c3; have g4 := hW.1.fr.c4; have g5 := hW.1.fr.c5; go_simp⟩) hr ?_
        refine wpAnyH_take (i := 1) (v := .slice r m cap) rfl (by kernel_rfl) (by kernel_rfl) (by kernel_rfl) (fun _ _ _ h => h) (Yields.yieldsIf (Or.inl ⟨by kernel_rfl, fun _ => by kernel_rfl⟩)) hr ?_
        refine wpAnyH_take (i := 2) (v := .slice (some ⟨CB, 0, none⟩) 3 3) rfl (by kernel_rfl) (by kernel_rfl) (by kernel_rfl) (fun _ _ _ h => h) (Yields.yieldsIf (Or.inl ⟨by kernel_rfl, fun _ => by kernel_rfl⟩)) hr ?_
        refine wpAnyH_take (i := 3) (v := .int .i64 (k : Int)) rfl (by kernel_rfl) (by kernel_rfl) (by kernel_rfl) (fun _ _ _ h => h) (Yields.yieldsIf (Or.inl ⟨by kernel_rfl, fun _ => by kernel_rfl⟩)) hr ?_
        refine wpAnyH_take (i := 4) (v := .pointer (some ⟨CB, k, none⟩)) rfl (by kernel_rfl) (by kernel_rfl) (by kernel_rfl) (fun _ _ _ h => h) (Yields.yieldsIf (Or.inl ⟨by kernel_rfl, fun _ => by go_simp⟩)) hr ?_
        refine wpAnyH_take (i := 5) (v := .int .i64 tk) rfl (by kernel_rfl) (by kernel_rfl) (by kernel_rfl) (fun _ _ _ h => h) (Or.inl ⟨by kernel_rfl, fun W hW => by have g0 := hW.2; go_simp⟩) hr ?_
        refine wpAnyH_take (i := 7) (v := .agg #[.int .u32 (g.id : Int), .int .i64 g.k, .slice g.a g.n g.c, .int .i64 g.s, .int .i64 g.p, .int .i64 g.d]) rfl (by kernel_rfl) (by kernel_rfl) (by kernel_rfl) (fun _ _ _ h => h) (Or.inl ⟨by kernel_rfl, fun W hW => by have g0 := hW.1.fr.c0; have g1 := hW.1.fr.c1; have g2 := hW.1.fr.c2; have g3 := hW.1.fr.c3; have g4 := hW.1.fr.c4; have g5 := hW.1.fr.c5; go_simp⟩) hr ?_
        refine wpAnyH_take (i := 8) (v := .slice r m cap) rfl (by kernel_rfl) (by kernel_rfl) (by kernel_rfl) (fun _ _ _ h => h) (Yields.yieldsIf (Or.inl ⟨by kernel_rfl, fun _ => by kernel_rfl⟩)) hr ?_
        refine wpAnyH_take (i := 9) (v := .slice (some ⟨CB, 0, none⟩) 3 3) rfl (by kernel_rfl) (by kernel_rfl) (by kernel_rfl) (fun _ _ _ h => h) (Yields.yieldsIf (Or.inl ⟨by kernel_rfl, fun _ => by kernel_rfl⟩)) hr ?_
        refine wpAnyH_take (i := 10) (v := .int .i64 (k : Int)) rfl (by kernel_rfl) (by kernel_rfl) (by kernel_rfl) (fun _ _ _ h => h) (Yields.yieldsIf (Or.inl ⟨by kernel_rfl, fun _ => by kernel_rfl⟩)) hr ?_
        refine wpAnyH_take (i := 11) (v := .pointer (some ⟨CB, k, none⟩)) rfl (by kernel_rfl) (by kernel_rfl) (by kernel_rfl) (fun _ _ _ h => h) (Yields.yieldsIf (Or.inl ⟨by kernel_rfl, fun _ => by go_simp⟩)) hr ?_
        refine wpAnyH_take (i := 12) (v := .int .i64 tk) rfl (by kernel_rfl) (by kernel_rfl) (by kernel_rfl) (fun _ _ _ h => h) (Or.inl ⟨by kernel_rfl, fun W hW => by have g0 := hW.2; go_simp⟩) hr ?_
        refine wpAnyH_ready (rs := [6]) (by kernel_rfl) (by simp) ?_
        refine AllReadyH.cons rfl (fun K2 hK2 => ?_) AllReadyH.nil
        go_simp
        refine Calls.mono (check_is (f := g) (r := yy) (K := K) (E := E) HE.out (by omega) hr.1.refs hr.1.frs) ?_
        rintro e w6 ⟨rfl, d6⟩
        have D6 := HD.out.trans (d6.mono HD.out.size)
        have hr := (⟨HH.out.grew D6, HC.out _ D6⟩ : Held w N g yy r m K w6 ∧ w6.cell? ⟨CB, k, none⟩ = some (.int .i64 tk))
        refine hK2.out _ _ hr (fun hr => ?_)
        have HD6 : Hid (Below z1.heap.size z1 w6) := D6
        clear hK2 K2 d6 D6
        refine wpAnyH_ready (rs := [13]) (by kernel_rfl) (by simp) ?_
        refine AllReadyH.cons rfl (fun K2 hK2 => ?_) AllReadyH.nil
        go_simp
        refine Calls.mono (HE.out ▸ rcheck_any g yy r m cap K tk 4 w6 (by omega) hr.1.refs hr.1.frs) ?_
        rintro e w7 ⟨rfl, d7⟩
        have D7 := HD6.out.trans (d7.mono HD6.out.size)
        have hr := (⟨HH.out.grew D7, HC.out _ D7⟩ : Held w N g yy r m K w7 ∧ w7.cell? ⟨CB, k, none⟩ = some (.int .i64 tk))
        refine hK2.out _ _ hr (fun hr => ?_)
        have HD7 : Hid (Below z1.heap.size z1 w7) := D7
        clear hK2 K2 d7 D7
        refine wpAnyH_take (i := 14) (v := .bool false) rfl (by kernel_rfl) (by kernel_rfl) (by kernel_rfl) (fun _ _ _ h => h) (Yields.yieldsIf (Or.inl ⟨by kernel_rfl, fun _ => by go_simp⟩)) hr ?_
        refine wpAnyH_done (by kernel_rfl) ?_ _
        clear hr
        go_wp2_with fail
        go_roundw
        case rel => exact ⟨k + 1, by omega, by go_num, HD7⟩
        case measure => simp [intOf]; omega
      · obtain rfl : k = 3 := by omega
        have HB : Hid (Below w.heap.size w wr) := (HH.out.grew hb.out).bel
        clear hb
        go_wp2
        go_ret
        exact ⟨rfl, HB.out⟩
  have a4 : ((sw : Int) == 4) = false := by simp; omega
  clear h4
  by_cases h5 : sw = 5
  · have a5 : ((sw : Int) == 5) = true := by simp [h5]
    clear h5
    obtain ⟨z0, ez0⟩ : ∃ x, y0.alloc (.cells #[.int .u32 (ru : Int)] 22) = x := ⟨_, rfl⟩
    have Bz0 : Below y0.heap.size y0 z0 := ez0 ▸ box_below y0 _
    have Nz : z0.cell? ⟨y0.heap.size, 0, none⟩ = some (.int .u32 (ru : Int)) := by
      rw [← ez0, World.cell?_alloc_at _ _ _ _ rfl]; rfl
    obtain ⟨v', z2, zz, happ, ho, hgr, hat⟩ := uor_push (c := 1) (m := 1) (a := ⟨y0.heap.size, 0, none⟩) (y := fun _ => (ru : Int)) 23 (HU.out.grew Bz0) (fun j hj => by
      obtain rfl : j = 0 := by omega
      exact Nz) (by omega) (by have := HN.out; have := Bz0.size; omega)
    obtain ⟨a', c', rfl, -, -, -⟩ := ho.any
    obtain ⟨z, ez⟩ : ∃ x, z2.setCell ⟨w4.heap.size, 2, none⟩ (.slice a' (f.n + 1) c') = x := ⟨_, rfl⟩
    have HW := HY.out.grew Bz0
    have fr2 := HW.fr.block (hgr.block _ HW.fr.lt (fun e => by have := (HO.out _ e.symm).2; omega))
    have cc2 := fr2.c2
    have zz2 := fr2.frz 2
    have HZ0 := HW.append hgr HO.out ho (fun g e => by
      have l1 := HN.out
      rcases hat with q | q
      · have := (HO.out g (q ▸ e)).2
        omega
      · rw [q] at e
        cases e
        have := Bz0.size; omega) (by omega) HN.out.1 HN.out.2.1 HR.out
    rw [ez] at HZ0
    obtain ⟨g, hg⟩ : ∃ g : Fr, g = { f with a := a', n := f.n + 1, c := c' } := ⟨_, rfl⟩
    obtain ⟨yy, hyy⟩ : ∃ y, y = zz := ⟨_, rfl⟩
    have HZ : Hid (Held w w4.heap.size g yy r m K z) := by rw [hg, hyy]; exact HZ0
    clear HZ0 hyy HW fr2 hgr ho hat fz Bz0 Nz
    clear hg
    obtain ⟨z1, ez1⟩ : ∃ x, z.alloc (.cells #[.int .i64 0, .int .i64 9, .int .i64 n] 2) = x := ⟨_, rfl⟩
    have Bz : Below z.heap.size z z1 := ez1 ▸ box_below z _
    have HH : Hid (Held w w4.heap.size g yy r m K z1) := HZ.out.grew Bz
    have HT : Hid (NumsAt .i64 z1 (some ⟨z.heap.size, 0, none⟩) 3 (clk n)) := by
      show NumsAt .i64 z1 _ 3 _
      rw [← ez1]
      exact fun _ => ⟨_, 0, rfl, fun i hi => by
        have hi : i = 0 ∨ i = 1 ∨ i = 2 := by omega
        rcases hi with rfl | rfl | rfl <;> (rw [World.cell?_alloc_at _ _ _ _ rfl]; rfl)⟩
    clear Bz HZ
    go_wp2_with (at_builtin; refine Go.Lib.wpList_append_run _ rfl (.tmp 57) (.tmp 59) 23 23 rfl _ _ rfl rfl _ _ happ ?_)
    generalize w4.heap.size = N at *
    clear ez ez1 happ cc2 zz2 hsw e0 f0 f1 f2 f3 f4 f5 HY HU HO HA HR HN ez0
    generalize z.heap.size = CB at *
    go_loopw [14] (fun i wr => ∃ k : Nat, k ≤ 3 ∧ i = .int .i64 k ∧ Hid (Below z1.heap.size z1 wr)) (fun i _ => 3 - (intOf i).toNat)
    case atStart => exact ⟨0, Nat.zero_le _, rfl, Below.refl _ _⟩
    case round =>
      obtain ⟨k, hk, rfl, hb⟩ := hrel
      by_cases hk3 : k < 3
      · have k1 : (k : Int) < 3 := by omega
        obtain ⟨E, hE⟩ : ∃ E, chk g yy m K (clk n k) 4 = E := ⟨_, rfl⟩
        have HE : Hid (chk g yy m K (clk n k) 4 = E) := hE
        have HC : Hid (∀ W, Below z1.heap.size z1 W → W.cell? ⟨CB, k, none⟩ = some (.int .i64 (clk n k))) := fun W hW => by
          have := nums_cell (HT.out.grew hW) k hk3
          rw [Nat.zero_add] at this
          exact this
        clear hE
        generalize clk n k = tk at *
        go_wp2_with fail
        refine wp_region_held (S := fun W => Held w N g yy r m K W ∧ W.cell? ⟨CB, k, none⟩ = some (.int .i64 tk)) (by kernel_rfl) ?_
        change wpAnyH _ _ _ _ _ _ _ _ wr.drew
        have hd : Below z1.heap.size z1 wr.drew := hb.out.drew
        have hr : Held w N g yy r m K wr.drew ∧ wr.drew.cell? ⟨CB, k, none⟩ = some (.int .i64 tk) := ⟨HH.out.grew hd, HC.out _ hd⟩
        have HD : Hid (Below z1.heap.size z1 wr.drew) := hd
        clear hb hd
        generalize wr.drew = w5 at *
        refine wpAnyH_take (i := 0) (v := .agg #[.int .u32 (g.id : Int), .int .i64 g.k, .slice g.a g.n g.c, .int .i64 g.s, .int .i64 g.p, .int .i64 g.d]) rfl (by kernel_rfl) (by kernel_rfl) (by kernel_rfl) (fun _ _ _ h => h) (Or.inl ⟨by kernel_rfl, fun W hW => by have g0 := hW.1.fr.c0; have g1 := hW.1.fr.c1; have g2 := hW.1.fr.c2; have g3 := hW.1.fr.c3; have g4 := hW.1.fr.c4; have g5 := hW.1.fr.c5; go_simp⟩) hr ?_
        refine wpAnyH_take (i := 1) (v := .slice r m cap) rfl (by kernel_rfl) (by kernel_rfl) (by kernel_rfl) (fun _ _ _ h => h) (Yields.yieldsIf (Or.inl ⟨by kernel_rfl, fun _ => by kernel_rfl⟩)) hr ?_
        refine wpAnyH_take (i := 2) (v := .slice (some ⟨CB, 0, none⟩) 3 3) rfl (by kernel_rfl) (by kernel_rfl) (by kernel_rfl) (fun _ _ _ h => h) (Yields.yieldsIf (Or.inl ⟨by kernel_rfl, fun _ => by kernel_rfl⟩)) hr ?_
        refine wpAnyH_take (i := 3) (v := .int .i64 (k : Int)) rfl (by kernel_rfl) (by kernel_rfl) (by kernel_rfl) (fun _ _ _ h => h) (Yields.yieldsIf (Or.inl ⟨by kernel_rfl, fun _ => by kernel_rfl⟩)) hr ?_
        refine wpAnyH_take (i := 4) (v := .pointer (some ⟨CB, k, none⟩)) rfl (by kernel_rfl) (by kernel_rfl) (by kernel_rfl) (fun _ _ _ h => h) (Yields.yieldsIf (Or.inl ⟨by kernel_rfl, fun _ => by go_simp⟩)) hr ?_
        refine wpAnyH_take (i := 5) (v := .int .i64 tk) rfl (by kernel_rfl) (by kernel_rfl) (by kernel_rfl) (fun _ _ _ h => h) (Or.inl ⟨by kernel_rfl, fun W hW => by have g0 := hW.2; go_simp⟩) hr ?_
        refine wpAnyH_take (i := 7) (v := .agg #[.int .u32 (g.id : Int), .int .i64 g.k, .slice g.a g.n g.c, .int .i64 g.s, .int .i64 g.p, .int .i64 g.d]) rfl (by kernel_rfl) (by kernel_rfl) (by kernel_rfl) (fun _ _ _ h => h) (Or.inl ⟨by kernel_rfl, fun W hW => by have g0 := hW.1.fr.c0; have g1 := hW.1.fr.c1; have g2 := hW.1.fr.c2; have g3 := hW.1.fr.c3; have g4 := hW.1.fr.c4; have g5 := hW.1.fr.c5; go_simp⟩) hr ?_
        refine wpAnyH_take (i := 8) (v := .slice r m cap) rfl (by kernel_rfl) (by kernel_rfl) (by kernel_rfl) (fun _ _ _ h => h) (Yields.yieldsIf (Or.inl ⟨by kernel_rfl, fun _ => by kernel_rfl⟩)) hr ?_
        refine wpAnyH_take (i := 9) (v := .slice (some ⟨CB, 0, none⟩) 3 3) rfl (by kernel_rfl) (by kernel_rfl) (by kernel_rfl) (fun _ _ _ h => h) (Yields.yieldsIf (Or.inl ⟨by kernel_rfl, fun _ => by kernel_rfl⟩)) hr ?_
        refine wpAnyH_take (i := 10) (v := .int .i64 (k : Int)) rfl (by kernel_rfl) (by kernel_rfl) (by kernel_rfl) (fun _ _ _ h => h) (Yields.yieldsIf (Or.inl ⟨by kernel_rfl, fun _ => by kernel_rfl⟩)) hr ?_
        refine wpAnyH_take (i := 11) (v := .pointer (some ⟨CB, k, none⟩)) rfl (by kernel_rfl) (by kernel_rfl) (by kernel_rfl) (fun _ _ _ h => h) (Yields.yieldsIf (Or.inl ⟨by kernel_rfl, fun _ => by go_simp⟩)) hr ?_
        refine wpAnyH_take (i := 12) (v := .int .i64 tk) rfl (by kernel_rfl) (by kernel_rfl) (by kernel_rfl) (fun _ _ _ h => h) (Or.inl ⟨by kernel_rfl, fun W hW => by have g0 := hW.2; go_simp⟩) hr ?_
        refine wpAnyH_ready (rs := [6]) (by kernel_rfl) (by simp) ?_
        refine AllReadyH.cons rfl (fun K2 hK2 => ?_) AllReadyH.nil
        go_simp
        refine Calls.mono (check_is (f := g) (r := yy) (K := K) (E := E) HE.out (by omega) hr.1.refs hr.1.frs) ?_
        rintro e w6 ⟨rfl, d6⟩
        have D6 := HD.out.trans (d6.mono HD.out.size)
        have hr := (⟨HH.out.grew D6, HC.out _ D6⟩ : Held w N g yy r m K w6 ∧ w6.cell? ⟨CB, k, none⟩ = some (.int .i64 tk))
        refine hK2.out _ _ hr (fun hr => ?_)
        have HD6 : Hid (Below z1.heap.size z1 w6) := D6
        clear hK2 K2 d6 D6
        refine wpAnyH_ready (rs := [13]) (by kernel_rfl) (by simp) ?_
        refine AllReadyH.cons rfl (fun K2 hK2 => ?_) AllReadyH.nil
        go_simp
        refine Calls.mono (HE.out ▸ rcheck_any g yy r m cap K tk 4 w6 (by omega) hr.1.refs hr.1.frs) ?_
        rintro e w7 ⟨rfl, d7⟩
        have D7 := HD6.out.trans (d7.mono HD6.out.size)
        have hr := (⟨HH.out.grew D7, HC.out _ D7⟩ : Held w N g yy r m K w7 ∧ w7.cell? ⟨CB, k, none⟩ = some (.int .i64 tk))
        refine hK2.out _ _ hr (fun hr => ?_)
        have HD7 : Hid (Below z1.heap.size z1 w7) := D7
        clear hK2 K2 d7 D7
        refine wpAnyH_take (i := 14) (v := .bool false) rfl (by kernel_rfl) (by kernel_rfl) (by kernel_rfl) (fun _ _ _ h => h) (Yields.yieldsIf (Or.inl ⟨by kernel_rfl, fun _ => by go_simp⟩)) hr ?_
        refine wpAnyH_done (by kernel_rfl) ?_ _
        clear hr
        go_wp2_with fail
        go_roundw
        case rel => exact ⟨k + 1, by omega, by go_num, HD7⟩
        case measure => simp [intOf]; omega
      · obtain rfl : k = 3 := by omega
        have HB : Hid (Below w.heap.size w wr) := (HH.out.grew hb.out).bel
        clear hb
        go_wp2
        go_ret
        exact ⟨rfl, HB.out⟩
  have a5 : ((sw : Int) == 5) = false := by simp; omega
  clear h5
  by_cases h6 : sw = 6
  · have a6 : ((sw : Int) == 6) = true := by simp [h6]
    clear h6
    obtain ⟨v', z2, zz, happ, ho, hgr, hat⟩ := uor_double 23 HU.out (by omega) (by have := HN.out; omega)
    obtain ⟨a', c', rfl, -, -, -⟩ := ho.any
    obtain ⟨z, ez⟩ : ∃ x, z2.setCell ⟨w4.heap.size, 2, none⟩ (.slice a' (f.n + f.n) c') = x := ⟨_, rfl⟩
    have HW := HY.out
    have fr2 := HW.fr.block (hgr.block _ HW.fr.lt (fun e => by have := (HO.out _ e.symm).2; omega))
    have cc2 := fr2.c2
    have zz2 := fr2.frz 2
    have HZ0 := HW.append hgr HO.out ho (fun g e => by
      have l1 := HN.out
      rcases hat with q | q
      · have := (HO.out g (q ▸ e)).2
        omega
      · rw [q] at e
        cases e
        omega) (by omega) HN.out.1 HN.out.2.1 HR.out
    rw [ez] at HZ0
    obtain ⟨g, hg⟩ : ∃ g : Fr, g = { f with a := a', n := f.n + f.n, c := c' } := ⟨_, rfl⟩
    obtain ⟨yy, hyy⟩ : ∃ y, y = zz := ⟨_, rfl⟩
    have HZ : Hid (Held w w4.heap.size g yy r m K z) := by rw [hg, hyy]; exact HZ0
    clear HZ0 hyy HW fr2 hgr ho hat fz
    clear hg
    obtain ⟨z1, ez1⟩ : ∃ x, z.alloc (.cells #[.int .i64 0, .int .i64 9, .int .i64 n] 2) = x := ⟨_, rfl⟩
    have Bz : Below z.heap.size z z1 := ez1 ▸ box_below z _
    have HH : Hid (Held w w4.heap.size g yy r m K z1) := HZ.out.grew Bz
    have HT : Hid (NumsAt .i64 z1 (some ⟨z.heap.size, 0, none⟩) 3 (clk n)) := by
      show NumsAt .i64 z1 _ 3 _
      rw [← ez1]
      exact fun _ => ⟨_, 0, rfl, fun i hi => by
        have hi : i = 0 ∨ i = 1 ∨ i = 2 := by omega
        rcases hi with rfl | rfl | rfl <;> (rw [World.cell?_alloc_at _ _ _ _ rfl]; rfl)⟩
    clear Bz HZ
    go_wp2_with (at_builtin; refine Go.Lib.wpList_append_run _ rfl (.tmp 65) (.tmp 67) 23 23 rfl _ _ rfl rfl _ _ happ ?_)
    generalize w4.heap.size = N at *
    clear ez ez1 happ cc2 zz2 hsw e0 f0 f1 f2 f3 f4 f5 HY HU HO HA HR HN
    generalize z.heap.size = CB at *
    go_loopw [14] (fun i wr => ∃ k : Nat, k ≤ 3 ∧ i = .int .i64 k ∧ Hid (Below z1.heap.size z1 wr)) (fun i _ => 3 - (intOf i).toNat)
    case atStart => exact ⟨0, Nat.zero_le _, rfl, Below.refl _ _⟩
    case round =>
      obtain ⟨k, hk, rfl, hb⟩ := hrel
      by_cases hk3 : k < 3
      · have k1 : (k : Int) < 3 := by omega
        obtain ⟨E, hE⟩ : ∃ E, chk g yy m K (clk n k) 4 = E := ⟨_, rfl⟩
        have HE : Hid (chk g yy m K (clk n k) 4 = E) := hE
        have HC : Hid (∀ W, Below z1.heap.size z1 W → W.cell? ⟨CB, k, none⟩ = some (.int .i64 (clk n k))) := fun W hW => by
          have := nums_cell (HT.out.grew hW) k hk3
          rw [Nat.zero_add] at this
          exact this
        clear hE
        generalize clk n k = tk at *
        go_wp2_with fail
        refine wp_region_held (S := fun W => Held w N g yy r m K W ∧ W.cell? ⟨CB, k, none⟩ = some (.int .i64 tk)) (by kernel_rfl) ?_
        change wpAnyH _ _ _ _ _ _ _ _ wr.drew
        have hd : Below z1.heap.size z1 wr.drew := hb.out.drew
        have hr : Held w N g yy r m K wr.drew ∧ wr.drew.cell? ⟨CB, k, none⟩ = some (.int .i64 tk) := ⟨HH.out.grew hd, HC.out _ hd⟩
        have HD : Hid (Below z1.heap.size z1 wr.drew) := hd
        clear hb hd
        generalize wr.drew = w5 at *
        refine wpAnyH_take (i := 0) (v := .agg #[.int .u32 (g.id : Int), .int .i64 g.k, .slice g.a g.n g.c, .int .i64 g.s, .int .i64 g.p, .int .i64 g.d]) rfl (by kernel_rfl) (by kernel_rfl) (by kernel_rfl) (fun _ _ _ h => h) (Or.inl ⟨by kernel_rfl, fun W hW => by have g0 := hW.1.fr.c0; have g1 := hW.1.fr.c1; have g2 := hW.1.fr.c2; have g3 := hW.1.fr.c3; have g4 := hW.1.fr.c4; have g5 := hW.1.fr.c5; go_simp⟩) hr ?_
        refine wpAnyH_take (i := 1) (v := .slice r m cap) rfl (by kernel_rfl) (by kernel_rfl) (by kernel_rfl) (fun _ _ _ h => h) (Yields.yieldsIf (Or.inl ⟨by kernel_rfl, fun _ => by kernel_rfl⟩)) hr ?_
        refine wpAnyH_take (i := 2) (v := .slice (some ⟨CB, 0, none⟩) 3 3) rfl (by kernel_rfl) (by kernel_rfl) (by kernel_rfl) (fun _ _ _ h => h) (Yields.yieldsIf (Or.inl ⟨by kernel_rfl, fun _ => by kernel_rfl⟩)) hr ?_
        refine wpAnyH_take (i := 3) (v := .int .i64 (k : Int)) rfl (by kernel_rfl) (by kernel_rfl) (by kernel_rfl) (fun _ _ _ h => h) (Yields.yieldsIf (Or.inl ⟨by kernel_rfl, fun _ => by kernel_rfl⟩)) hr ?_
        refine wpAnyH_take (i := 4) (v := .pointer (some ⟨CB, k, none⟩)) rfl (by kernel_rfl) (by kernel_rfl) (by kernel_rfl) (fun _ _ _ h => h) (Yields.yieldsIf (Or.inl ⟨by kernel_rfl, fun _ => by go_simp⟩)) hr ?_
        refine wpAnyH_take (i := 5) (v := .int .i64 tk) rfl (by kernel_rfl) (by kernel_rfl) (by kernel_rfl) (fun _ _ _ h => h) (Or.inl ⟨by kernel_rfl, fun W hW => by have g0 := hW.2; go_simp⟩) hr ?_
        refine wpAnyH_take (i := 7) (v := .agg #[.int .u32 (g.id : Int), .int .i64 g.k, .slice g.a g.n g.c, .int .i64 g.s, .int .i64 g.p, .int .i64 g.d]) rfl (by kernel_rfl) (by kernel_rfl) (by kernel_rfl) (fun _ _ _ h => h) (Or.inl ⟨by kernel_rfl, fun W hW => by have g0 := hW.1.fr.c0; have g1 := hW.1.fr.c1; have g2 := hW.1.fr.c2; have g3 := hW.1.fr.c3; have g4 := hW.1.fr.c4; have g5 := hW.1.fr.c5; go_simp⟩) hr ?_
        refine wpAnyH_take (i := 8) (v := .slice r m cap) rfl (by kernel_rfl) (by kernel_rfl) (by kernel_rfl) (fun _ _ _ h => h) (Yields.yieldsIf (Or.inl ⟨by kernel_rfl, fun _ => by kernel_rfl⟩)) hr ?_
        refine wpAnyH_take (i := 9) (v := .slice (some ⟨CB, 0, none⟩) 3 3) rfl (by kernel_rfl) (by kernel_rfl) (by kernel_rfl) (fun _ _ _ h => h) (Yields.yieldsIf (Or.inl ⟨by kernel_rfl, fun _ => by kernel_rfl⟩)) hr ?_
        refine wpAnyH_take (i := 10) (v := .int .i64 (k : Int)) rfl (by kernel_rfl) (by kernel_rfl) (by kernel_rfl) (fun _ _ _ h => h) (Yields.yieldsIf (Or.inl ⟨by kernel_rfl, fun _ => by kernel_rfl⟩)) hr ?_
        refine wpAnyH_take (i := 11) (v := .pointer (some ⟨CB, k, none⟩)) rfl (by kernel_rfl) (by kernel_rfl) (by kernel_rfl) (fun _ _ _ h => h) (Yields.yieldsIf (Or.inl ⟨by kernel_rfl, fun _ => by go_simp⟩)) hr ?_
        refine wpAnyH_take (i := 12) (v := .int .i64 tk) rfl (by kernel_rfl) (by kernel_rfl) (by kernel_rfl) (fun _ _ _ h => h) (Or.inl ⟨by kernel_rfl, fun W hW => by have g0 := hW.2; go_simp⟩) hr ?_
        refine wpAnyH_ready (rs := [6]) (by kernel_rfl) (by simp) ?_
        refine AllReadyH.cons rfl (fun K2 hK2 => ?_) AllReadyH.nil
        go_simp
        refine Calls.mono (check_is (f := g) (r := yy) (K := K) (E := E) HE.out (by omega) hr.1.refs hr.1.frs) ?_
        rintro e w6 ⟨rfl, d6⟩
        have D6 := HD.out.trans (d6.mono HD.out.size)
        have hr := (⟨HH.out.grew D6, HC.out _ D6⟩ : Held w N g yy r m K w6 ∧ w6.cell? ⟨CB, k, none⟩ = some (.int .i64 tk))
        refine hK2.out _ _ hr (fun hr => ?_)
        have HD6 : Hid (Below z1.heap.size z1 w6) := D6
        clear hK2 K2 d6 D6
        refine wpAnyH_ready (rs := [13]) (by kernel_rfl) (by simp) ?_
        refine AllReadyH.cons rfl (fun K2 hK2 => ?_) AllReadyH.nil
        go_simp
        refine Calls.mono (HE.out ▸ rcheck_any g yy r m cap K tk 4 w6 (by omega) hr.1.refs hr.1.frs) ?_
        rintro e w7 ⟨rfl, d7⟩
        have D7 := HD6.out.trans (d7.mono HD6.out.size)
        have hr := (⟨HH.out.grew D7, HC.out _ D7⟩ : Held w N g yy r m K w7 ∧ w7.cell? ⟨CB, k, none⟩ = some (.int .i64 tk))
        refine hK2.out _ _ hr (fun hr => ?_)
        have HD7 : Hid (Below z1.heap.size z1 w7) := D7
        clear hK2 K2 d7 D7
        refine wpAnyH_take (i := 14) (v := .bool false) rfl (by kernel_rfl) (by kernel_rfl) (by kernel_rfl) (fun _ _ _ h => h) (Yields.yieldsIf (Or.inl ⟨by kernel_rfl, fun _ => by go_simp⟩)) hr ?_
        refine wpAnyH_done (by kernel_rfl) ?_ _
        clear hr
        go_wp2_with fail
        go_roundw
        case rel => exact ⟨k + 1, by omega, by go_num, HD7⟩
        case measure => simp [intOf]; omega
      · obtain rfl : k = 3 := by omega
        have HB : Hid (Below w.heap.size w wr) := (HH.out.grew hb.out).bel
        clear hb
        go_wp2
        go_ret
        exact ⟨rfl, HB.out⟩
  have a6 : ((sw : Int) == 6) = false := by simp; omega
  clear h6
  obtain ⟨g, hg⟩ : ∃ g : Fr, g = f := ⟨_, rfl⟩
  obtain ⟨yy, hyy⟩ : ∃ y, y = rr := ⟨_, rfl⟩
  obtain ⟨z, hz⟩ : ∃ z, z = y0 := ⟨_, rfl⟩
  have HZ : Hid (Held w w4.heap.size g yy r m K z) := by rw [hg, hyy, hz]; exact HY.out
  clear hg hyy fz
  subst hz
  obtain ⟨z1, ez1⟩ : ∃ x, z.alloc (.cells #[.int .i64 0, .int .i64 9, .int .i64 n] 2) = x := ⟨_, rfl⟩
  have Bz : Below z.heap.size z z1 := ez1 ▸ box_below z _
  have HH : Hid (Held w w4.heap.size g yy r m K z1) := HZ.out.grew Bz
  have HT : Hid (NumsAt .i64 z1 (some ⟨z.heap.size, 0, none⟩) 3 (clk n)) := by
    show NumsAt .i64 z1 _ 3 _
    rw [← ez1]
    exact fun _ => ⟨_, 0, rfl, fun i hi => by
      have hi : i = 0 ∨ i = 1 ∨ i = 2 := by omega
      rcases hi with rfl | rfl | rfl <;> (rw [World.cell?_alloc_at _ _ _ _ rfl]; rfl)⟩
  clear Bz HZ
  go_wp2_with fail
  generalize w4.heap.size = N at *
  clear ez1 hsw e0 f0 f1 f2 f3 f4 f5 HY HU HO HA HR HN
  generalize z.heap.size = CB at *
  go_loopw [14] (fun i wr => ∃ k : Nat, k ≤ 3 ∧ i = .int .i64 k ∧ Hid (Below z1.heap.size z1 wr)) (fun i _ => 3 - (intOf i).toNat)
  case atStart => exact ⟨0, Nat.zero_le _, rfl, Below.refl _ _⟩
  case round =>
    obtain ⟨k, hk, rfl, hb⟩ := hrel
    by_cases hk3 : k < 3
    · have k1 : (k : Int) < 3 := by omega
      obtain ⟨E, hE⟩ : ∃ E, chk g yy m K (clk n k) 4 = E := ⟨_, rfl⟩
      have HE : Hid (chk g yy m K (clk n k) 4 = E) := hE
      have HC : Hid (∀ W, Below z1.heap.size z1 W → W.cell? ⟨CB, k, none⟩ = some (.int .i64 (clk n k))) := fun W hW => by
        have := nums_cell (HT.out.grew hW) k hk3
        rw [Nat.zero_add] at this
        exact this
      clear hE
      generalize clk n k = tk at *
      go_wp2_with fail
      refine wp_region_held (S := fun W => Held w N g yy r m K W ∧ W.cell? ⟨CB, k, none⟩ = some (.int .i64 tk)) (by kernel_rfl) ?_
      change wpAnyH _ _ _ _ _ _ _ _ wr.drew
      have hd : Below z1.heap.size z1 wr.drew := hb.out.drew
      have hr : Held w N g yy r m K wr.drew ∧ wr.drew.cell? ⟨CB, k, none⟩ = some (.int .i64 tk) := ⟨HH.out.grew hd, HC.out _ hd⟩
      have HD : Hid (Below z1.heap.size z1 wr.drew) := hd
      clear hb hd
      generalize wr.drew = w5 at *
      refine wpAnyH_take (i := 0) (v := .agg #[.int .u32 (g.id : Int), .int .i64 g.k, .slice g.a g.n g.c, .int .i64 g.s, .int .i64 g.p, .int .i64 g.d]) rfl (by kernel_rfl) (by kernel_rfl) (by kernel_rfl) (fun _ _ _ h => h) (Or.inl ⟨by kernel_rfl, fun W hW => by have g0 := hW.1.fr.c0; have g1 := hW.1.fr.c1; have g2 := hW.1.fr.c2; have g3 := hW.1.fr.c3; have g4 := hW.1.fr.c4; have g5 := hW.1.fr.c5; go_simp⟩) hr ?_
      refine wpAnyH_take (i := 1) (v := .slice r m cap) rfl (by kernel_rfl) (by kernel_rfl) (by kernel_rfl) (fun _ _ _ h => h) (Yields.yieldsIf (Or.inl ⟨by kernel_rfl, fun _ => by kernel_rfl⟩)) hr ?_
      refine wpAnyH_take (i := 2) (v := .slice (some ⟨CB, 0, none⟩) 3 3) rfl (by kernel_rfl) (by kernel_rfl) (by kernel_rfl) (fun _ _ _ h => h) (Yields.yieldsIf (Or.inl ⟨by kernel_rfl, fun _ => by kernel_rfl⟩)) hr ?_
      refine wpAnyH_take (i := 3) (v := .int .i64 (k : Int)) rfl (by kernel_rfl) (by kernel_rfl) (by kernel_rfl) (fun _ _ _ h => h) (Yields.yieldsIf (Or.inl ⟨by kernel_rfl, fun _ => by kernel_rfl⟩)) hr ?_
      refine wpAnyH_take (i := 4) (v := .pointer (some ⟨CB, k, none⟩)) rfl (by kernel_rfl) (by kernel_rfl) (by kernel_rfl) (fun _ _ _ h => h) (Yields.yieldsIf (Or.inl ⟨by kernel_rfl, fun _ => by go_simp⟩)) hr ?_
      refine wpAnyH_take (i := 5) (v := .int .i64 tk) rfl (by kernel_rfl) (by kernel_rfl) (by kernel_rfl) (fun _ _ _ h => h) (Or.inl ⟨by kernel_rfl, fun W hW => by have g0 := hW.2; go_simp⟩) hr ?_
      refine wpAnyH_take (i := 7) (v := .agg #[.int .u32 (g.id : Int), .int .i64 g.k, .slice g.a g.n g.c, .int .i64 g.s, .int .i64 g.p, .int .i64 g.d]) rfl (by kernel_rfl) (by kernel_rfl) (by kernel_rfl) (fun _ _ _ h => h) (Or.inl ⟨by kernel_rfl, fun W hW => by have g0 := hW.1.fr.c0; have g1 := hW.1.fr.c1; have g2 := hW.1.fr.c2; have g3 := hW.1.fr.c3; have g4 := hW.1.fr.c4; have g5 := hW.1.fr.c5; go_simp⟩) hr ?_
      refine wpAnyH_take (i := 8) (v := .slice r m cap) rfl (by kernel_rfl) (by kernel_rfl) (by kernel_rfl) (fun _ _ _ h => h) (Yields.yieldsIf (Or.inl ⟨by kernel_rfl, fun _ => by kernel_rfl⟩)) hr ?_
      refine wpAnyH_take (i := 9) (v := .slice (some ⟨CB, 0, none⟩) 3 3) rfl (by kernel_rfl) (by kernel_rfl) (by kernel_rfl) (fun _ _ _ h => h) (Yields.yieldsIf (Or.inl ⟨by kernel_rfl, fun _ => by kernel_rfl⟩)) hr ?_
      refine wpAnyH_take (i := 10) (v := .int .i64 (k : Int)) rfl (by kernel_rfl) (by kernel_rfl) (by kernel_rfl) (fun _ _ _ h => h) (Yields.yieldsIf (Or.inl ⟨by kernel_rfl, fun _ => by kernel_rfl⟩)) hr ?_
      refine wpAnyH_take (i := 11) (v := .pointer (some ⟨CB, k, none⟩)) rfl (by kernel_rfl) (by kernel_rfl) (by kernel_rfl) (fun _ _ _ h => h) (Yields.yieldsIf (Or.inl ⟨by kernel_rfl, fun _ => by go_simp⟩)) hr ?_
      refine wpAnyH_take (i := 12) (v := .int .i64 tk) rfl (by kernel_rfl) (by kernel_rfl) (by kernel_rfl) (fun _ _ _ h => h) (Or.inl ⟨by kernel_rfl, fun W hW => by have g0 := hW.2; go_simp⟩) hr ?_
      refine wpAnyH_ready (rs := [6]) (by kernel_rfl) (by simp) ?_
      refine AllReadyH.cons rfl (fun K2 hK2 => ?_) AllReadyH.nil
      go_simp
      refine Calls.mono (check_is (f := g) (r := yy) (K := K) (E := E) HE.out (by omega) hr.1.refs hr.1.frs) ?_
      rintro e w6 ⟨rfl, d6⟩
      have D6 := HD.out.trans (d6.mono HD.out.size)
      have hr := (⟨HH.out.grew D6, HC.out _ D6⟩ : Held w N g yy r m K w6 ∧ w6.cell? ⟨CB, k, none⟩ = some (.int .i64 tk))
      refine hK2.out _ _ hr (fun hr => ?_)
      have HD6 : Hid (Below z1.heap.size z1 w6) := D6
      clear hK2 K2 d6 D6
      refine wpAnyH_ready (rs := [13]) (by kernel_rfl) (by simp) ?_
      refine AllReadyH.cons rfl (fun K2 hK2 => ?_) AllReadyH.nil
      go_simp
      refine Calls.mono (HE.out ▸ rcheck_any g yy r m cap K tk 4 w6 (by omega) hr.1.refs hr.1.frs) ?_
      rintro e w7 ⟨rfl, d7⟩
      have D7 := HD6.out.trans (d7.mono HD6.out.size)
      have hr := (⟨HH.out.grew D7, HC.out _ D7⟩ : Held w N g yy r m K w7 ∧ w7.cell? ⟨CB, k, none⟩ = some (.int .i64 tk))
      refine hK2.out _ _ hr (fun hr => ?_)
      have HD7 : Hid (Below z1.heap.size z1 w7) := D7
      clear hK2 K2 d7 D7
      refine wpAnyH_take (i := 14) (v := .bool false) rfl (by kernel_rfl) (by kernel_rfl) (by kernel_rfl) (fun _ _ _ h => h) (Yields.yieldsIf (Or.inl ⟨by kernel_rfl, fun _ => by go_simp⟩)) hr ?_
      refine wpAnyH_done (by kernel_rfl) ?_ _
      clear hr
      go_wp2_with fail
      go_roundw
      case rel => exact ⟨k + 1, by omega, by go_num, HD7⟩
      case measure => simp [intOf]; omega
    · obtain rfl : k = 3 := by omega
      have HB : Hid (Below w.heap.size w wr) := (HH.out.grew hb.out).bel
      clear hb
      go_wp2
      go_ret
      exact ⟨rfl, HB.out⟩

set_option maxRecDepth 100000 in
theorem long (a : Option Addr) (l c : Nat) (wh : Int) (n r : Int) (w : World) (hn : ¬ l ≤ 60) :
    Calls Try.prog 4 #[.slice a l c, .int .u8 wh, .int .i64 n, .int .u32 r] w fun e w' => e = .returned (.bool true) ∧ Below w.heap.size w w' := by
  have i1 : (60 : Int) < (l : Int) := by omega
  go_enter Try.func4, Try.ntmps4
  go_wp2_with fail
  refine (begun12 _).mono ?_
  rintro e w1 ⟨rfl, b1⟩
  have HB : Hid (Below w.heap.size w w1) := b1
  clear b1 hn
  go_wp2
  go_ret
  exact ⟨rfl, HB.out⟩

theorem walk (a : Option Addr) (l c : Nat) (x : Nat → Nat) (wh n r : Int) (w : World) (h : BytesAt w a l x ∧ l ≤ c ∧ c ≤ maxLen) (h1 : (Lit.int .u8 wh).wf = true) (_ : (Lit.int .i64 n).wf = true) (h3 : (Lit.int .u32 r).wf = true) :
    Calls Try.prog 4 #[.slice a l c, .int .u8 wh, .int .i64 n, .int .u32 r] w fun e w' => e = .returned (.bool true) ∧ Below w.heap.size w w' := by
  by_cases hn : l ≤ 60
  · have k1 := bounds_u8 h1
    have k3 := bounds_u32 h3
    obtain ⟨wh, rfl⟩ : ∃ q : Nat, wh = q := ⟨wh.toNat, by omega⟩
    obtain ⟨r, rfl⟩ : ∃ q : Nat, r = q := ⟨r.toNat, by omega⟩
    exact core a l c x wh n r w h.1 hn (by omega)
  · exact long a l c wh n r w hn

set_option maxRecDepth 100000 in
theorem lifted (os : Os) (started : os.Started) (H : Type) (enc : TypeId × Value → H) :
    ReturnsInHanded {} Try.checked os 4 .any (Rows.frameMadeSpec.pre6 enc Try.prog Try.f4 Rows.frameMadeRow.domain false) (Rows.frameMadeSpec.post enc Try.prog Try.f4 false true false false) := by
  refine returnsInHanded_of_change (C := Try.checked) own started (by kernel_rfl) Try.func4
    (ChangeSpec.witness6 (enc := enc) (C := Try.checked) false ⟨#[], #[.slice none 0 0, .int .u8 0, .int .i64 0, .int .u32 0], []⟩ 8 (by kernel_rfl) (by kernel_rfl) (by kernel_rfl) (by kernel_rfl)) ?_
  intro W base args ds gs before hval0 hW hcnd _
  have hval : ∀ (j : Nat) t v, Try.f4.params[j]? = some t → args[j]? = some v → Value.okWide Try.prog W .any base t v := hval0
  have hW' := hW
  obtain ⟨p, q, hA0, hV, rfl, hfz, hnd⟩ := hW
  have hA : DataW.TrodAll enc Try.prog W 0 (fun _ => true) true Try.f4.params.toList args.toList ds p := hA0
  rw [Try.params4] at hA hval
  obtain ⟨v0, vs0, d0, ds0, p0, q0, hargs, rfl, rfl, h0, r0⟩ := trodAll_cons hA
  obtain ⟨v1, vs1, d1, ds1, p1, q1, rfl, rfl, rfl, h1, r1⟩ := trodAll_cons r0
  obtain ⟨v2, vs2, d2, ds2, p2, q2, rfl, rfl, rfl, h2, r2⟩ := trodAll_cons r1
  obtain ⟨v3, vs3, d3, ds3, p3, q3, rfl, rfl, rfl, h3, r3⟩ := trodAll_cons r2
  obtain ⟨rfl, rfl, rfl⟩ := trodAll_nil r3
  obtain rfl : args = #[v0, v1, v2, v3] := by cases args; simp_all
  obtain ⟨rfl, rfl⟩ := trodVars_none hV
  obtain ⟨a0, len0, cap0, rfl⟩ := okWide_slice Try.underlying32 (hval 0 32 v0 rfl rfl)
  have k0 := h0
  have lt0 : ∀ x ∈ p0, x.block < W.heap.size := by obtain ⟨m, hm⟩ := k0; exact DataW.trod_lt m _ _ _ hm
  obtain ⟨x0, w0⟩ : ∃ x, BytesAt W a0 len0 x ∧ len0 ≤ cap0 ∧ cap0 ≤ maxLen := open_bytes Try.underlying32 Try.underlying5 (by kernel_rfl) h0
  obtain ⟨a1, rfl, rfl, rfl, w1⟩ := open_int Try.underlying5 (hval 1 5 v1 rfl rfl) h1
  obtain ⟨a2, rfl, rfl, rfl, w2⟩ := open_int Try.underlying2 (hval 2 2 v2 rfl rfl) h2
  obtain ⟨a3, rfl, rfl, rfl, w3⟩ := open_int Try.underlying22 (hval 3 22 v3 rfl rfl) h3
  clear hA0 hval0
  refine (walk a0 len0 cap0 x0 a1 a2 a3 W w0 w1 w2 w3).mono fun e W' ⟨he, bel⟩ => ?_
  subst he
  exact ⟨_, rfl, _, _, _, [], _, [], hW', trodAll_mk1 (shut_bool Try.underlying4 _), (trodAll_cons_mk (Below.trod laidOut (by kernel_rfl) (of_decide_eq_true (by kernel_rfl)) k0 bel lt0) (trodAll_cons_mk (shut_int Try.underlying5 w1) (trodAll_cons_mk (shut_int Try.underlying2 w2) (trodAll_cons_mk (shut_int Try.underlying22 w3) trodAll_mk0)))), rfl, bel.frame _, fun h => by cases h⟩

theorem over : Rows.frameMadeRow.holds Try.pinned (OpenSpec.ofChange Rows.frameMadeSpec) :=
  OpenClaim.holds_of_wide 4 Try.f4 rfl rfl rfl rfl rfl rfl rfl ⟨rfl, rfl, rfl, rfl, rfl⟩ rfl rfl rfl rfl rfl (by kernel_rfl) Try.func4 (by kernel_rfl)
    (of_decide_eq_true (by kernel_rfl)) (by unfold Func.isWrapper; first | (rw [if_pos (by decide +kernel)]; kernel_rfl) | (rw [if_neg (by decide +kernel)]; exact ⟨rfl, rfl⟩))
    (fun os started H enc _ => lifted os started H enc)

theorem proved : Rows.FrameMadeSaid := over
end Go.Proofs.Ytheedopfchkebaa.frameMade
namespace Go.Proofs.Ytheedopfchkebaa
theorem frameMade_holds : Rows.FrameMadeSaid := frameMade.proved
#print axioms frameMade_holds
end Go.Proofs.Ytheedopfchkebaa

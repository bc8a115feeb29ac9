/-
  Which symbols say more, how many are wanted, and what they are, in any run: as the document has it, for every frame, every size, every symbol's size and every twelve symbols: the call returns true (no condition).
-/
import Derived.Test.YtgbeklifcchmlaaRows
import Derived.WalkKit
import Derived.ProofKit
import Derived.OpenShut
import Derived.ShutString
import Derived.ChangeOld
import Derived.Below
import Derived.Carry
import Derived.Test.YtgbeklifcchmlaaOpn
import Derived.Test.YtgbeklifcchmlaaBbg
import Derived.Test.YtgbeklifcchmlaaRba
import Derived.Test.YtgbeklifcchmlaaPin
import Derived.Test.YtgbeklifcchmlaaOpi
import Derived.Deep.RegionHeld3
import Derived.Deep.CutRange
namespace Go.Proofs.Ytgbeklifcchmlaa.basinAll
open Go.ChangeShapes Go.WideShapes Go.ChangeAt Go.RowKit
open Go.ChangeMaps (open_string shut_string)
set_option linter.unusedVariables false

theorem own : ownKnob Try.prog.godebug = none := by kernel_rfl
theorem laidOut : laidOutB Try.prog = true := by kernel_rfl

open Go.Deep

/-- n bytes, and 0 behind them. -/
def nrm (n : Nat) (x : Nat → Nat) (j : Nat) : Nat := if j < n then x j else 0
theorem nrm_byt {n : Nat} {x : Nat → Nat} (h : ∀ i, i < n → x i < 256) : Byt (nrm n x) := fun j => by
  unfold nrm
  split
  · exact h j (by assumption)
  · exact Nat.zero_lt_succ _
theorem bytes_nrm {w : World} {a : Option Addr} {n : Nat} {x : Nat → Nat} (h : BytesAt w a n x) : BytesAt w a n (nrm n x) := h.congr fun i hi => by unfold nrm; rw [if_pos hi]
theorem lent_head {w : World} {b n : Nat} {x : Nat → Nat} (h : BytesAt w (some ⟨b, 0, none⟩) (n + 5) (lentOf x n)) : BytesAt w (some ⟨b, 0, none⟩) n x := (h.take (m := n) (by omega)).congr fun i hi => by unfold lentOf; rw [if_pos hi]

/-- One symbol more: what both answer and leave. -/
theorem step_both (N B R M D f n s k d m : Nat) (z : Int) (S : Nat → Option (Nat → Nat)) (V : Nat → Nat → Nat) (y : Nat → Nat) (p : PInv k d S V) (hy : ∀ i, i < m → y i < 256) (hf : f < 4294967296) (k1 : 1 ≤ k) (k2 : k ≤ 32) (s1 : 1 ≤ s) (s2 : s ≤ 64) (hd : d ≤ 50) :
    ∃ (ans : Bool) (S' : Nat → Option (Nat → Nat)) (d' : Nat) (V' : Nat → Nat → Nat), PInv k d' S' V' ∧ d' ≤ d + 1 ∧
      (∀ w a c, BasinAt w N B R f n s k S → BytesAt w a m y → Calls Try.prog 13 #[.pointer (some ⟨N, 0, none⟩), .int .i64 z, .slice a m c] w fun e w' => e = .returned (.bool ans) ∧ BasinAt w' N B R f n s k S' ∧ Kept R w w') ∧
      (∀ w a c, BsnAt w M D f n s → RefAt w D R k s d V → R < w.heap.size → BytesAt w a m y → Calls Try.prog 18 #[.pointer (some ⟨M, 0, none⟩), .int .i64 z, .slice a m c] w fun e w' => e = .returned (.bool ans) ∧ RefAt w' D R k s d' V' ∧ Kept D w w') := by
  by_cases hz : 0 ≤ z ∧ z < (k : Int) + 64
  · obtain ⟨id, rfl⟩ : ∃ id : Nat, z = id := ⟨z.toNat, by omega⟩
    have hi : id < k + 64 := by omega
    by_cases hm : m = s
    · subst hm
      have hv : Byt (cat (Dice.rowOf f id k) (nrm m y) k) := cat_byt (fun j => Dice.rowOf_lt f id k j) (nrm_byt hy)
      rcases p.step hv with ⟨e, hn⟩ | ⟨S', e, p', hn⟩
      · refine ⟨false, S, d, V, p, by omega, fun w a c h b => ?_, fun w a c hB h hR b => ?_⟩
        · refine (badd_yes N B R f n m k id c S _ a w h (bytes_nrm b) hf hi).mono ?_
          rintro e' w' ⟨rfl, h1, h2⟩
          rw [e] at h1 ⊢
          exact ⟨rfl, h1, h2⟩
        · refine (rbadd_yes M D R f n k m d id c V _ a w hB h (bytes_nrm b) (nrm_byt hy) p.byt hf k1 k2 s1 s2 hd hR hi).mono ?_
          rintro e' w' ⟨q, Vr, T, st, h1, h2⟩
          have hq := hn q Vr T st
          rcases h1 with ⟨-, rfl, h3⟩ | ⟨hlt, -⟩
          · exact ⟨rfl, h3, h2⟩
          · omega
      · refine ⟨true, S', d + 1, _, p', by omega, fun w a c h b => ?_, fun w a c hB h hR b => ?_⟩
        · refine (badd_yes N B R f n m k id c S _ a w h (bytes_nrm b) hf hi).mono ?_
          rintro e' w' ⟨rfl, h1, h2⟩
          rw [e] at h1 ⊢
          exact ⟨rfl, h1, h2⟩
        · refine (rbadd_yes M D R f n k m d id c V _ a w hB h (bytes_nrm b) (nrm_byt hy) p.byt hf k1 k2 s1 s2 hd hR hi).mono ?_
          rintro e' w' ⟨q, Vr, T, st, h1, h2⟩
          have hq := hn q Vr T st
          rcases h1 with ⟨hle, -⟩ | ⟨-, rfl, h3⟩
          · omega
          · exact ⟨rfl, h3, h2⟩
    · refine ⟨false, S, d, V, p, by omega, fun w a c h _ => ?_, fun w a c hB h _ _ => ?_⟩
      · refine (badd_len N B R f n s k id m c S a w h hf hi hm).mono ?_
        rintro e w' ⟨rfl, hb⟩
        exact ⟨rfl, h.grew hb, Kept.of_below hb⟩
      · refine (rbadd_len M D R f n k s d id m c V a w hB h hf k1 k2 hi hm).mono ?_
        rintro e w' ⟨rfl, hb⟩
        exact ⟨rfl, h.grew hb, Kept.of_below hb⟩
  · refine ⟨false, S, d, V, p, by omega, fun w a c h _ => ?_, fun w a c hB h _ _ => ?_⟩
    · refine (badd_dice N B R f n s k z S _ w h hz).mono ?_
      rintro e w' ⟨rfl, hb⟩
      exact ⟨rfl, h.grew hb, Kept.of_below hb⟩
    · refine (rbadd_dice M D R f n k s d z V _ w hB h hz).mono ?_
      rintro e w' ⟨rfl, hb⟩
      exact ⟨rfl, h.grew (hb.below _), Kept.of_same hb⟩

/-- What stands between the rounds. -/
structure St (w wr : World) (N B R M D f n s k d : Nat) (S : Nat → Option (Nat → Nat)) (V : Nat → Nat → Nat) : Prop where
  bas : BasinAt wr N B R f n s k S
  bsn : BsnAt wr M D f n s
  ref : RefAt wr D R k s d V
  inv : PInv k d S V
  ne : M ≠ D
  gr : w.heap.size ≤ R
  gd : w.heap.size ≤ D
  below : Below w.heap.size w wr
theorem St.grew {w wr w' : World} {N B R M D f n s k d : Nat} {S : Nat → Option (Nat → Nat)} {V : Nat → Nat → Nat} (h : St w wr N B R M D f n s k d S V) (hb : Below wr.heap.size wr w') : St w w' N B R M D f n s k d S V :=
  ⟨h.bas.grew hb, h.bsn.grew hb, h.ref.grew hb, h.inv, h.ne, h.gr, h.gd, h.below.trans (hb.mono h.below.size)⟩
theorem St.nd {w wr : World} {N B R M D f n s k d : Nat} {S : Nat → Option (Nat → Nat)} {V : Nat → Nat → Nat} (h : St w wr N B R M D f n s k d S V) : N ≠ D := by
  rintro rfl
  have := h.bas.fr
  rw [h.ref.kc] at this
  cases this
/-- A copy goes on in its place, whatever comes of it. -/
theorem St.copied {w wr w1 w2 : World} {N B R N' B' R' M D f n s k d : Nat} {S S2 : Nat → Option (Nat → Nat)} {V : Nat → Nat → Nat} (h : St w wr N B R M D f n s k d S V) (hR : wr.heap.size ≤ R') (hc : BasinAt w1 N' B' R' f n s k S) (hb : Below wr.heap.size wr w1)
    (h2 : BasinAt w2 N B R f n s k S2) (hk : Kept R w1 w2) : St w w2 N' B' R' M D f n s k d S V := by
  have h1 := h.grew hb
  have ne : R' ≠ R := by have := h.bas.basis.lt; omega
  exact ⟨hc.kept hk h1.bas.apart ne, h1.bsn.keptR hk h1.bas.apart, ((h.ref.other hR).grew hb).keep h1.ref hk h1.bas.apart h1.bas.basis.k1 h1.bas.basis.s1, h.inv, h.ne, Nat.le_trans h.below.size hR, h.gd, h1.below.trans (hk.below h1.gr h1.below.size)⟩
theorem same_text {n s k m : Nat} {S : Nat → Option (Nat → Nat)} {V Vr : Nat → Nat → Nat} {T : Nat → Option (Nat → Nat)} (p : PInv k k S V) (st : Stg k k m V Vr T) (hk : cntOf n s = k) (s1 : 1 ≤ s) : strOf n (joined (fun i t => Vr i (k + t)) s) = strOf n (joined (solOf S k) s) := by
  refine strOf_congr fun i hi => ?_
  have h1 : i / s < k := by
    have := cnt_ge n s s1
    rw [Nat.div_lt_iff_lt_mul (by omega), ← hk]
    omega
  obtain ⟨r, e⟩ := rank_full S k p.rk _ h1
  have e2 := p.solved st _ h1 r e
  unfold joined solOf
  rw [e]
  show Vr (i / s) (k + i % s) = r (k + i % s)
  rw [e2]

set_option maxRecDepth 100000 in
set_option maxHeartbeats 1000000 in
theorem bad (f : Nat) (n s : Int) (a3 : Option Addr) (len3 cap3 : Nat) (a4 : Option Addr) (len4 cap4 : Nat) (w : World) (hl : len3 ≤ 12) (hl4 : len3 ≤ len4) (hno : ¬ (1 ≤ s ∧ s ≤ 64 ∧ 1 ≤ n ∧ n ≤ 32 * s)) :
    Calls Try.prog 3 #[.int .u32 (f : Int), .int .i64 n, .int .i64 s, .slice a3 len3 cap3, .slice a4 len4 cap4] w fun e w' => e = .returned (.bool true) ∧ Below w.heap.size w w' := by
  have i1 : decide (12 < (len3 : Int)) = false := by simp; omega
  have i2 : ¬ ((len4 : Int) < (len3 : Int)) := by omega
  have HN : Hid (¬ (1 ≤ s ∧ s ≤ 64 ∧ 1 ≤ n ∧ n ≤ 32 * s)) := hno
  clear hno
  go_enter Try.func3, Try.ntmps3
  go_wp2_with fail
  refine (begun6 _).mono ?_
  rintro e w1 ⟨rfl, hb1⟩
  go_wp2_with fail
  refine (new_any _).mono ?_
  rintro e w2 ⟨rfl, hb2, -, -⟩
  go_wp2_with fail
  refine (basin_no _ f n s _ HN.out).mono ?_
  rintro e w3 ⟨rfl, b3⟩
  have K3 : Hid (Below w.heap.size w w3) := (hb1.trans (hb2.mono hb1.size)).trans (b3.mono (Nat.le_trans hb1.size hb2.size))
  clear hb1 hb2 b3
  go_wp2_with fail
  refine (rbasin_no f n s w3 HN.out).mono ?_
  rintro e wx ⟨rfl, hx⟩
  subst wx
  go_wp2_with fail
  refine (bpay_nil w3).mono ?_
  rintro e wx ⟨rfl, hx⟩
  subst wx
  go_wp2_with fail
  refine (basin_nil f 5 5 w3 (by decide) (by decide) (by decide) (by decide)).mono ?_
  rintro e w4 ⟨rfl, b4⟩
  have K4 : Hid (Below w.heap.size w w4) := K3.out.trans (b4.mono K3.out.size)
  clear K3 b4
  go_wp2_with fail
  refine (badd_nil _ _ w4).mono ?_
  rintro e wx ⟨rfl, hx⟩
  subst wx
  go_wp2_with fail
  refine (bmiss_nil w4).mono ?_
  rintro e wx ⟨rfl, hx⟩
  subst wx
  go_wp2_with fail
  refine (bbytes_nil w4).mono ?_
  rintro e wx ⟨rfl, hx⟩
  subst wx
  go_wp2_with fail
  refine (bcopy_nil w4).mono ?_
  rintro e wx ⟨rfl, hx⟩
  subst wx
  go_wp2
  go_ret
  exact ⟨rfl, K4.out⟩

set_option maxRecDepth 100000 in
set_option maxHeartbeats 400000 in
theorem long (f : Nat) (n s : Int) (a3 : Option Addr) (len3 cap3 : Nat) (a4 : Option Addr) (len4 cap4 : Nat) (w : World) (hl : 12 < len3 ∨ len4 < len3) :
    Calls Try.prog 3 #[.int .u32 (f : Int), .int .i64 n, .int .i64 s, .slice a3 len3 cap3, .slice a4 len4 cap4] w fun e w' => e = .returned (.bool true) ∧ Below w.heap.size w w' := by
  by_cases h1 : 12 < len3
  · have i1 : decide (12 < (len3 : Int)) = true := by simp; omega
    clear hl
    go_enter Try.func3, Try.ntmps3
    go_wp2_with fail
    refine (begun6 _).mono ?_
    rintro e w1 ⟨rfl, hb1⟩
    go_wp2
    go_ret
    exact ⟨rfl, hb1⟩
  · have i1 : decide (12 < (len3 : Int)) = false := by simp; omega
    have i2 : (len4 : Int) < (len3 : Int) := by omega
    clear hl
    go_enter Try.func3, Try.ntmps3
    go_wp2_with fail
    refine (begun6 _).mono ?_
    rintro e w1 ⟨rfl, hb1⟩
    go_wp2
    go_ret
    exact ⟨rfl, hb1⟩

set_option maxRecDepth 100000 in
set_option maxHeartbeats 4000000 in
theorem core (f n s k : Nat) (a3 : Option Addr) (len3 cap3 : Nat) (z3 : Nat → Int) (a4 : Option Addr) (len4 cap4 : Nat) (A4 : Nat → Option Addr) (L4 C4 : Nat → Nat) (Z4 : Nat → Nat → Nat) (w : World) (hf : f < 4294967296)
    (s1 : 1 ≤ s) (s2 : s ≤ 64) (n1 : 1 ≤ n) (n2 : n ≤ 32 * s) (hk : k = cntOf n s) (hl : len3 ≤ 12) (hl4 : len3 ≤ len4) (h3 : IntsAt w a3 len3 z3) (h4 : ListsAt w a4 len4 A4 L4 C4 Z4) :
    Calls Try.prog 3 #[.int .u32 (f : Int), .int .i64 (n : Int), .int .i64 (s : Int), .slice a3 len3 cap3, .slice a4 len4 cap4] w fun e w' => e = .returned (.bool true) ∧ Below w.heap.size w w' := by
  have i1 : decide (12 < (len3 : Int)) = false := by simp; omega
  have i2 : ¬ ((len4 : Int) < (len3 : Int)) := by omega
  have k1 : 1 ≤ k := hk ▸ cnt_pos s1 n1
  have k2 : k ≤ 32 := hk ▸ cnt_le n s s1 n2
  have H3 : Hid (IntsAt w a3 len3 z3) := h3
  have H4 : Hid (ListsAt w a4 len4 A4 L4 C4 Z4) := h4
  have HK : Hid (k = cntOf n s) := hk
  have hmk := run_make_row' (P := Try.prog) 34 5 (.int .u8 0) 1 Try.underlying34 Try.infoByte rfl .i64 .i64 s (by omega) (by omega)
  clear h3 h4 hk
  go_enter Try.func3, Try.ntmps3
  go_wp2_with fail
  refine (begun6 _).mono ?_
  rintro e w1 ⟨rfl, b1⟩
  go_wp2_with fail
  refine (new_any _).mono ?_
  rintro e w2 ⟨rfl, b2, F2, -⟩
  have B2 := b1.trans (b2.mono b1.size)
  go_wp2_with fail
  refine (basin_yes w1.heap.size f n s k _ F2 s1 s2 n1 n2 HK.out k1 k2).mono ?_
  rintro e w3 ⟨N, B, R, rfl, gR, N3, b3⟩
  have K3 : Hid (Below w.heap.size w w3) := B2.trans (b3.mono B2.size)
  have GR : Hid (w.heap.size ≤ R) := Nat.le_trans B2.size gR
  have HN3 : Hid (BasinAt w3 N B R f n s k (fun _ => none)) := N3
  clear b1 b2 F2 B2 gR N3 b3
  go_wp2_with fail
  refine (rbasin_new R f n s k w3 s1 s2 n1 n2 HK.out k1 k2).mono ?_
  rintro e w4 ⟨M, D, rfl, -, gD, hMD, M4, r4, b4⟩
  have T4 : Hid (St w w4 N B R M D f n s k 0 (fun _ => none) (fun _ _ => 0)) := ⟨HN3.out.grew b4, M4, r4, PInv.empty k _, hMD, GR.out, Nat.le_trans K3.out.size gD, K3.out.trans (b4.mono K3.out.size)⟩
  clear HN3 M4 r4 b4 gD K3 GR hMD
  go_wp2_with fail
  go_loopw [11, 20] (fun b i wr => ∃ (j d N B R : Nat) (S : Nat → Option (Nat → Nat)) (V : Nat → Nat → Nat), j ≤ len3 ∧ d ≤ j ∧ b = .pointer (some ⟨N, 0, none⟩) ∧ i = .int .i64 j ∧ St w wr N B R M D f n s k d S V) (fun _ i _ => len3 - (intOf i).toNat)
  case atStart => exact ⟨0, 0, N, B, R, _, _, Nat.zero_le _, Nat.zero_le _, rfl, rfl, T4.out⟩
  case round =>
    clear T4
    obtain ⟨j, d, N0, B0, R0, S, V, hj, hdj, rfl, rfl, hT⟩ := hrel
    have HT : Hid (St w wr N0 B0 R0 M D f n s k d S V) := hT
    clear hT
    by_cases hjk : j < len3
    · obtain ⟨ib, io, rfl, HI⟩ := H3.out (by omega)
      obtain ⟨db, dz, rfl, HD⟩ := H4.out (by omega)
      have qi := HI j hjk
      obtain ⟨qd, l3, l4, BD⟩ := HD j (by omega)
      have ed : wr.cell? ⟨db, dz + j, none⟩ = some (.slice (A4 j) (L4 j) (C4 j)) := (HT.out.below.cell (p := ⟨db, dz + j, none⟩) (cell_lt qd)).trans qd
      have j1 : (j : Int) < (len3 : Int) := by omega
      have j2 : (j : Int) < (len4 : Int) := by omega
      clear HI HD
      by_cases hbig : 70 < L4 j
      · have KB : Hid (Below w.heap.size w wr) := HT.out.below
        have m2 : (70 : Int) < ((L4 j : Nat) : Int) := by omega
        clear HT BD hbig qi qd
        go_wp2
        go_ret
        exact ⟨rfl, KB.out⟩
      have m2 : ((L4 j : Nat) : Int) ≤ 70 := by omega
      have BDH : Hid (BytesAt w (A4 j) (L4 j) (Z4 j)) := BD
      have QIH : Hid (w.cell? ⟨ib, io + j, none⟩ = some (.int .i64 (z3 j))) := qi
      have QDH : Hid (w.cell? ⟨db, dz + j, none⟩ = some (.slice (A4 j) (L4 j) (C4 j))) := qd
      clear BD qi qd
      go_upto_if 122 with fail
      go_cut [11, 20, 21] from 109 to 197 (fun b i _ wc => i = .int .i64 (j : Int) ∧ ∃ N B R, b = .pointer (some ⟨N, 0, none⟩) ∧ St w wc N B R M D f n s k d S V)
      case first =>
        by_cases h5 : j = 5
        · have h5b : ((j : Int) == 5) = true := by simp; omega
          have H5 : Hid (j = 5) := h5
          clear h5
          go_wp2_with fail
          refine (bcopy_yes N0 B0 R0 f n s k S wr HT.out.bas).mono ?_
          rintro e w5 ⟨N', B', R', rfl, gR', N5, b5⟩
          have HG : Hid (wr.heap.size ≤ R' ∧ BasinAt w5 N' B' R' f n s k S ∧ Below wr.heap.size wr w5) := ⟨gR', N5, b5⟩
          have mn : min (s : Int) 64 = (s : Int) := by omega
          have mx : max (s : Int) 0 = (s : Int) := by omega
          clear gR' N5 b5
          go_wp2_with fail
          have b6 : Below w5.heap.size w5 (w5.alloc (.cells (madeCells #[.int .u8 0] s) 5)) := (Below.refl _ _).alloc (Nat.le_refl _) _
          have Y6 : BytesAt (w5.alloc (.cells (madeCells #[.int .u8 0] s) 5)) (some ⟨w5.heap.size, 0, none⟩) s (fun _ => 0) := row_bytes (World.rowIs_made w5 (.int .u8 0) s 5) fun i _ => ⟨by decide, rfl⟩
          generalize w5.alloc (.cells (madeCells #[.int .u8 0] s) 5) = w6 at *
          refine (badd_yes N0 B0 R0 f n s k 0 s S _ _ w6 ((HT.out.bas.grew HG.out.2.2).grew b6) Y6 hf (by omega)).mono ?_
          rintro e w7 ⟨rfl, N7, k7⟩
          have T7 : Hid (St w w7 N' B' R' M D f n s k d S V) := HT.out.copied HG.out.1 (HG.out.2.1.grew b6) (HG.out.2.2.trans (b6.mono HG.out.2.2.size)) N7 k7
          clear b6 Y6 N7 k7 HG
          go_wp2_with fail
          go_meet
          case rel => exact ⟨by rw [H5.out], N', B', R', rfl, T7.out⟩
        · have h5b : ((j : Int) == 5) = false := by simp; omega
          go_wp2_with fail
          go_meet
          case rel => exact ⟨rfl, N0, B0, R0, rfl, HT.out⟩
      case rest =>
      clear HT ed hmk
      obtain ⟨rfl, N, B, R, rfl, hT⟩ := hcut
      have HT : Hid (St w wc N B R M D f n s k d S V) := hT
      clear hT
      obtain ⟨ans, S', d', V', pi, hd', sp, sr⟩ := step_both N B R M D f n s k d (L4 j) (z3 j) S V (Z4 j) HT.out.inv BDH.out.lt hf k1 k2 s1 s2 (by omega)
      have dk' : d' ≤ k := by rw [← pi.rk]; exact rankTo_le S' k
      have SPH : Hid _ := sp
      have SRH : Hid _ := sr
      have PIH : Hid (PInv k d' S' V') := pi
      clear sp sr pi
      have ed : wc.cell? ⟨db, dz + j, none⟩ = some (.slice (A4 j) (L4 j) (C4 j)) := (HT.out.below.cell (p := ⟨db, dz + j, none⟩) (cell_lt QDH.out)).trans QDH.out
      go_wp2_with fail
      refine (lent_any (A4 j) (L4 j) (C4 j) (Z4 j) wc (BDH.out.below HT.out.below (Nat.le_refl _)) (by omega)).mono ?_
      rintro e w3' ⟨rfl, XL, bl, -⟩
      have T3 : Hid (St w w3' N B R M D f n s k d S V) := HT.out.grew bl
      have XL : Hid _ := XL
      clear bl HT ed
      go_wp2_with fail
      have sp := SPH.out
      have sr := SRH.out
      have pi := PIH.out
      have BD := BDH.out
      have qi := QIH.out
      have qd := QDH.out
      refine wp_region_held (S := fun w' => w'.cell? ⟨ib, io + j, none⟩ = some (.int .i64 (z3 j)) ∧ w'.cell? ⟨db, dz + j, none⟩ = some (.slice (A4 j) (L4 j) (C4 j))) (by kernel_rfl) ?_
      change wpAnyH _ _ _ _ _ _ _ _ w3'.drew
      have T4 : St w w3'.drew N B R M D f n s k d S V := T3.out.grew (Below.refl _ w3').drew
      have XL := XL.out.grew (w' := w3'.drew) (Below.refl _ w3').drew
      have hr : w3'.drew.cell? ⟨ib, io + j, none⟩ = some (.int .i64 (z3 j)) ∧ w3'.drew.cell? ⟨db, dz + j, none⟩ = some (.slice (A4 j) (L4 j) (C4 j)) := ⟨(T4.below.cell (p := ⟨ib, io + j, none⟩) (cell_lt qi)).trans qi, (T4.below.cell (p := ⟨db, dz + j, none⟩) (cell_lt qd)).trans qd⟩
      clear T3
      generalize w3'.drew = w4 at *
      generalize hwl : wc = wl at *
      refine wpAnyH_take (i := 0) (v := .pointer (some ⟨N, 0, none⟩)) rfl (by kernel_rfl) (by kernel_rfl) (by kernel_rfl) (fun _ _ _ h => h) (Yields.yieldsIf (Or.inl ⟨by kernel_rfl, fun _ => by kernel_rfl⟩)) hr ?_
      refine wpAnyH_take (i := 1) (v := .slice (some ⟨ib, io, none⟩) len3 cap3) rfl (by kernel_rfl) (by kernel_rfl) (by kernel_rfl) (fun _ _ _ h => h) (Yields.yieldsIf (Or.inl ⟨by kernel_rfl, fun _ => by kernel_rfl⟩)) hr ?_
      refine wpAnyH_take (i := 2) (v := .int .i64 (j : Int)) rfl (by kernel_rfl) (by kernel_rfl) (by kernel_rfl) (fun _ _ _ h => h) (Yields.yieldsIf (Or.inl ⟨by kernel_rfl, fun _ => by kernel_rfl⟩)) hr ?_
      refine wpAnyH_take (i := 3) (v := .pointer (some ⟨ib, io + j, none⟩)) rfl (by kernel_rfl) (by kernel_rfl) (by kernel_rfl) (fun _ _ _ h => h) (Yields.yieldsIf (Or.inl ⟨by kernel_rfl, fun _ => by go_simp⟩)) hr ?_
      refine wpAnyH_take (i := 4) (v := .int .i64 (z3 j)) rfl (by kernel_rfl) (by kernel_rfl) (by kernel_rfl) (fun _ _ _ h => h) (Or.inl ⟨by kernel_rfl, fun W hW => by have g := hW.1; go_simp⟩) hr ?_
      refine wpAnyH_take (i := 5) (v := .slice (some ⟨wl.heap.size, 0, none⟩) (L4 j) (L4 j + 5)) rfl (by kernel_rfl) (by kernel_rfl) (by kernel_rfl) (fun _ _ _ h => h) (Yields.yieldsIf (Or.inl ⟨by kernel_rfl, fun _ => by kernel_rfl⟩)) hr ?_
      refine wpAnyH_take (i := 7) (v := .pointer (some ⟨M, 0, none⟩)) rfl (by kernel_rfl) (by kernel_rfl) (by kernel_rfl) (fun _ _ _ h => h) (Yields.yieldsIf (Or.inl ⟨by kernel_rfl, fun _ => by kernel_rfl⟩)) hr ?_
      refine wpAnyH_take (i := 8) (v := .slice (some ⟨ib, io, none⟩) len3 cap3) rfl (by kernel_rfl) (by kernel_rfl) (by kernel_rfl) (fun _ _ _ h => h) (Yields.yieldsIf (Or.inl ⟨by kernel_rfl, fun _ => by kernel_rfl⟩)) hr ?_
      refine wpAnyH_take (i := 9) (v := .int .i64 (j : Int)) rfl (by kernel_rfl) (by kernel_rfl) (by kernel_rfl) (fun _ _ _ h => h) (Yields.yieldsIf (Or.inl ⟨by kernel_rfl, fun _ => by kernel_rfl⟩)) hr ?_
      refine wpAnyH_take (i := 10) (v := .pointer (some ⟨ib, io + j, none⟩)) rfl (by kernel_rfl) (by kernel_rfl) (by kernel_rfl) (fun _ _ _ h => h) (Yields.yieldsIf (Or.inl ⟨by kernel_rfl, fun _ => by go_simp⟩)) hr ?_
      refine wpAnyH_take (i := 11) (v := .int .i64 (z3 j)) rfl (by kernel_rfl) (by kernel_rfl) (by kernel_rfl) (fun _ _ _ h => h) (Or.inl ⟨by kernel_rfl, fun W hW => by have g := hW.1; go_simp⟩) hr ?_
      refine wpAnyH_take (i := 12) (v := .slice (some ⟨db, dz, none⟩) len4 cap4) rfl (by kernel_rfl) (by kernel_rfl) (by kernel_rfl) (fun _ _ _ h => h) (Yields.yieldsIf (Or.inl ⟨by kernel_rfl, fun _ => by kernel_rfl⟩)) hr ?_
      refine wpAnyH_take (i := 13) (v := .int .i64 (j : Int)) rfl (by kernel_rfl) (by kernel_rfl) (by kernel_rfl) (fun _ _ _ h => h) (Yields.yieldsIf (Or.inl ⟨by kernel_rfl, fun _ => by kernel_rfl⟩)) hr ?_
      refine wpAnyH_take (i := 14) (v := .pointer (some ⟨db, dz + j, none⟩)) rfl (by kernel_rfl) (by kernel_rfl) (by kernel_rfl) (fun _ _ _ h => h) (Yields.yieldsIf (Or.inl ⟨by kernel_rfl, fun _ => by go_simp⟩)) hr ?_
      refine wpAnyH_take (i := 15) (v := .slice (A4 j) (L4 j) (C4 j)) rfl (by kernel_rfl) (by kernel_rfl) (by kernel_rfl) (fun _ _ _ h => h) (Or.inl ⟨by kernel_rfl, fun W hW => by have g := hW.2; go_simp⟩) hr ?_
      refine wpAnyH_ready (rs := [6]) (by kernel_rfl) (by simp) ?_
      refine AllReadyH.cons rfl (fun K2 hK2 => ?_) AllReadyH.nil
      go_simp
      refine Calls.mono (sp w4 (some ⟨wl.heap.size, 0, none⟩) (L4 j + 5) T4.bas (lent_head XL)) ?_
      rintro e w5 ⟨rfl, h5, k5⟩
      have T5r := T4.ref.kept k5 T4.bas.apart T4.bas.basis.k1 T4.bas.basis.s1
      have T5b := T4.bsn.keptR k5 T4.bas.apart
      have XL := XL.kept k5 T4.bas.apart
      have B5 : Below w.heap.size w w5 := T4.below.trans (k5.below T4.gr T4.below.size)
      have lR5 : R < w5.heap.size := Nat.lt_of_lt_of_le T4.bas.basis.lt.2 k5.size
      refine hK2.out _ _ ⟨(B5.cell (p := ⟨ib, io + j, none⟩) (cell_lt qi)).trans qi, (B5.cell (p := ⟨db, dz + j, none⟩) (cell_lt qd)).trans qd⟩ (fun hr => ?_)
      clear hK2 K2
      refine wpAnyH_ready (rs := [16]) (by kernel_rfl) (by simp) ?_
      refine AllReadyH.cons rfl (fun K2 hK2 => ?_) AllReadyH.nil
      go_simp
      refine Calls.mono (sr w5 (A4 j) (C4 j) T5b T5r lR5 (BD.below B5 (Nat.le_refl _))) ?_
      rintro e w6 ⟨rfl, R6, k6⟩
      have h6 := h5.keptN k6 T5r.kc (by decide) T4.nd
      have b6 := T5b.kept k6 T4.ne
      have XL := bytes_keptN XL k6 T5r.kc (by decide) (by omega)
      have T6 : St w w6 N B R M D f n s k d' S' V' := ⟨h6, b6, R6, pi, T4.ne, T4.gr, T4.gd, B5.trans (k6.below T4.gd B5.size)⟩
      clear T4 h5 k5 T5r T5b B5 h6 b6 R6 k6 sp sr lR5
      refine hK2.out _ _ ⟨(T6.below.cell (p := ⟨ib, io + j, none⟩) (cell_lt qi)).trans qi, (T6.below.cell (p := ⟨db, dz + j, none⟩) (cell_lt qd)).trans qd⟩ (fun hr => ?_)
      clear hK2 K2
      refine wpAnyH_take (i := 17) (v := .bool false) rfl (by kernel_rfl) (by kernel_rfl) (by kernel_rfl) (fun _ _ _ h => h) (Yields.yieldsIf (Or.inl ⟨by kernel_rfl, fun _ => by go_simp⟩)) hr ?_
      refine wpAnyH_take (i := 18) (v := .bool false) rfl (by kernel_rfl) (by kernel_rfl) (by kernel_rfl) (fun _ _ _ h => h) (Yields.yieldsIf (Or.inl ⟨by kernel_rfl, fun _ => by kernel_rfl⟩)) hr ?_
      refine wpAnyH_take (i := 19) (v := .pointer (some ⟨N, 0, none⟩)) rfl (by kernel_rfl) (by kernel_rfl) (by kernel_rfl) (fun _ _ _ h => h) (Yields.yieldsIf (Or.inl ⟨by kernel_rfl, fun _ => by kernel_rfl⟩)) hr ?_
      refine wpAnyH_take (i := 21) (v := .pointer (some ⟨M, 0, none⟩)) rfl (by kernel_rfl) (by kernel_rfl) (by kernel_rfl) (fun _ _ _ h => h) (Yields.yieldsIf (Or.inl ⟨by kernel_rfl, fun _ => by kernel_rfl⟩)) hr ?_
      refine wpAnyH_ready (rs := [20]) (by kernel_rfl) (by simp) ?_
      refine AllReadyH.cons rfl (fun K2 hK2 => ?_) AllReadyH.nil
      go_simp
      refine Calls.mono (bmiss_yes N B R f n s k S' w6 T6.bas) ?_
      rintro e w7 ⟨rfl, q7⟩
      rw [T6.inv.rk]
      have T7 := T6.grew (q7.below _)
      have XL := q7.bytes XL
      clear T6 q7
      refine hK2.out _ _ ⟨(T7.below.cell (p := ⟨ib, io + j, none⟩) (cell_lt qi)).trans qi, (T7.below.cell (p := ⟨db, dz + j, none⟩) (cell_lt qd)).trans qd⟩ (fun hr => ?_)
      clear hK2 K2
      refine wpAnyH_ready (rs := [22]) (by kernel_rfl) (by simp) ?_
      refine AllReadyH.cons rfl (fun K2 hK2 => ?_) AllReadyH.nil
      go_simp
      refine Calls.mono (rbmiss M D R f n k s d' V' w7 T7.bsn T7.ref dk' k2) ?_
      rintro e w8 ⟨rfl, q8⟩
      have T8 := T7.grew (q8.below _)
      have XL := q8.bytes XL
      clear T7 q8
      refine hK2.out _ _ ⟨(T8.below.cell (p := ⟨ib, io + j, none⟩) (cell_lt qi)).trans qi, (T8.below.cell (p := ⟨db, dz + j, none⟩) (cell_lt qd)).trans qd⟩ (fun hr => ?_)
      clear hK2 K2
      refine wpAnyH_take (i := 23) (v := .bool false) rfl (by kernel_rfl) (by kernel_rfl) (by kernel_rfl) (fun _ _ _ h => h) (Yields.yieldsIf (Or.inl ⟨by kernel_rfl, fun _ => by go_simp⟩)) hr ?_
      refine wpAnyH_take (i := 24) (v := .bool false) rfl (by kernel_rfl) (by kernel_rfl) (by kernel_rfl) (fun _ _ _ h => h) (Yields.yieldsIf (Or.inl ⟨by kernel_rfl, fun _ => by kernel_rfl⟩)) hr ?_
      refine wpAnyH_take (i := 25) (v := .bool false) rfl (by kernel_rfl) (by kernel_rfl) (by kernel_rfl) (fun _ _ _ h => h) (Yields.yieldsIf (Or.inl ⟨by kernel_rfl, fun _ => by kernel_rfl⟩)) hr ?_
      refine wpAnyH_take (i := 26) (v := .pointer (some ⟨N, 0, none⟩)) rfl (by kernel_rfl) (by kernel_rfl) (by kernel_rfl) (fun _ _ _ h => h) (Yields.yieldsIf (Or.inl ⟨by kernel_rfl, fun _ => by kernel_rfl⟩)) hr ?_
      refine wpAnyH_take (i := 28) (v := .pointer (some ⟨M, 0, none⟩)) rfl (by kernel_rfl) (by kernel_rfl) (by kernel_rfl) (fun _ _ _ h => h) (Yields.yieldsIf (Or.inl ⟨by kernel_rfl, fun _ => by kernel_rfl⟩)) hr ?_
      refine wpAnyH_ready (rs := [27]) (by kernel_rfl) (by simp) ?_
      refine AllReadyH.cons rfl (fun K2 hK2 => ?_) AllReadyH.nil
      go_simp
      refine Calls.mono (bbytes_yes N B R f n s k S' w8 T8.bas) ?_
      rintro e w9 ⟨rfl, q9⟩
      have T9 := T8.grew (q9.below _)
      have XL := q9.bytes XL
      clear T8 q9
      refine hK2.out _ _ ⟨(T9.below.cell (p := ⟨ib, io + j, none⟩) (cell_lt qi)).trans qi, (T9.below.cell (p := ⟨db, dz + j, none⟩) (cell_lt qd)).trans qd⟩ (fun hr => ?_)
      clear hK2 K2
      refine wpAnyH_ready (rs := [29]) (by kernel_rfl) (by simp) ?_
      refine AllReadyH.cons rfl (fun K2 hK2 => ?_) AllReadyH.nil
      go_simp
      refine Calls.mono (rbbytes M D R f n k s d' V' w9 T9.bsn T9.ref k2 s2) ?_
      rintro e w10 ⟨rfl, q10⟩
      have T10 := T9.grew (q10.below _)
      have XL := q10.bytes XL
      clear T9 q10
      refine hK2.out _ _ ⟨(T10.below.cell (p := ⟨ib, io + j, none⟩) (cell_lt qi)).trans qi, (T10.below.cell (p := ⟨db, dz + j, none⟩) (cell_lt qd)).trans qd⟩ (fun hr => ?_)
      clear hK2 K2
      refine wpAnyH_take (i := 30) (v := .bool false) rfl (by kernel_rfl) (by kernel_rfl) (by kernel_rfl) (fun _ _ _ h => h) (Yields.yieldsIf (Or.inl ⟨by kernel_rfl, fun _ => by go_simp⟩)) hr ?_
      refine wpAnyH_take (i := 31) (v := .bool false) rfl (by kernel_rfl) (by kernel_rfl) (by kernel_rfl) (fun _ _ _ h => h) (Yields.yieldsIf (Or.inl ⟨by kernel_rfl, fun _ => by kernel_rfl⟩)) hr ?_
      refine wpAnyH_take (i := 32) (v := .bool false) rfl (by kernel_rfl) (by kernel_rfl) (by kernel_rfl) (fun _ _ _ h => h) (Yields.yieldsIf (Or.inl ⟨by kernel_rfl, fun _ => by kernel_rfl⟩)) hr ?_
      refine wpAnyH_take (i := 33) (v := .slice (some ⟨wl.heap.size, 0, none⟩) (L4 j) (L4 j + 5)) rfl (by kernel_rfl) (by kernel_rfl) (by kernel_rfl) (fun _ _ _ h => h) (Yields.yieldsIf (Or.inl ⟨by kernel_rfl, fun _ => by kernel_rfl⟩)) hr ?_
      refine wpAnyH_take (i := 34) (v := .slice (some ⟨db, dz, none⟩) len4 cap4) rfl (by kernel_rfl) (by kernel_rfl) (by kernel_rfl) (fun _ _ _ h => h) (Yields.yieldsIf (Or.inl ⟨by kernel_rfl, fun _ => by kernel_rfl⟩)) hr ?_
      refine wpAnyH_take (i := 35) (v := .int .i64 (j : Int)) rfl (by kernel_rfl) (by kernel_rfl) (by kernel_rfl) (fun _ _ _ h => h) (Yields.yieldsIf (Or.inl ⟨by kernel_rfl, fun _ => by kernel_rfl⟩)) hr ?_
      refine wpAnyH_take (i := 36) (v := .pointer (some ⟨db, dz + j, none⟩)) rfl (by kernel_rfl) (by kernel_rfl) (by kernel_rfl) (fun _ _ _ h => h) (Yields.yieldsIf (Or.inl ⟨by kernel_rfl, fun _ => by go_simp⟩)) hr ?_
      refine wpAnyH_take (i := 37) (v := .slice (A4 j) (L4 j) (C4 j)) rfl (by kernel_rfl) (by kernel_rfl) (by kernel_rfl) (fun _ _ _ h => h) (Or.inl ⟨by kernel_rfl, fun W hW => by have g := hW.2; go_simp⟩) hr ?_
      refine wpAnyH_ready (rs := [38]) (by kernel_rfl) (by simp) ?_
      refine AllReadyH.cons rfl (fun K2 hK2 => ?_) AllReadyH.nil
      go_simp
      refine Calls.mono (whole_any (A4 j) wl.heap.size (L4 j) (C4 j) (Z4 j) w10 XL (BD.below T10.below (Nat.le_refl _)) (by omega)) ?_
      rintro e wx ⟨rfl, hx⟩
      subst wx
      refine hK2.out _ _ ⟨(T10.below.cell (p := ⟨ib, io + j, none⟩) (cell_lt qi)).trans qi, (T10.below.cell (p := ⟨db, dz + j, none⟩) (cell_lt qd)).trans qd⟩ (fun hr => ?_)
      clear hK2 K2
      refine wpAnyH_take (i := 39) (v := .bool false) rfl (by kernel_rfl) (by kernel_rfl) (by kernel_rfl) (fun _ _ _ h => h) (Yields.yieldsIf (Or.inl ⟨by kernel_rfl, fun _ => by kernel_rfl⟩)) hr ?_
      refine wpAnyH_take (i := 40) (v := .bool false) rfl (by kernel_rfl) (by kernel_rfl) (by kernel_rfl) (fun _ _ _ h => h) (Yields.yieldsIf (Or.inl ⟨by kernel_rfl, fun _ => by kernel_rfl⟩)) hr ?_
      refine wpAnyH_done (by kernel_rfl) ?_ _
      have T10 : Hid (St w w10 N B R M D f n s k d' S' V') := T10
      clear hr XL
      go_wp2_with fail
      clear pi BD qi qd BDH SPH SRH QIH QDH
      by_cases hfull : d' = k
      · subst hfull
        refine (bpay_yes N B R f n s d' S' w10 T10.out.bas T10.out.inv.rk n1 n2 HK.out.symm).mono ?_
        rintro e w11 ⟨b11, c11, rfl, -, -, -, B11, bb11⟩
        have T11 : Hid (St w w11 N B R M D f n s d' d' S' V') := T10.out.grew bb11
        have HB11 : Hid (BytesAt w11 (some ⟨b11, 0, none⟩) n (joined (solOf S' d') s)) := B11
        clear B11 bb11 T10
        go_wp2_with fail
        refine (rpay_got M D R f n d' s V' w11 T11.out.bsn T11.out.ref PIH.out.byt k1 k2 s1 s2 n1 n2 HK.out.symm).mono ?_
        rintro e w12 ⟨m, Vr, T, st, a12, c12, rfl, B12, bb12⟩
        have T12 : Hid (St w w12 N B R M D f n s d' d' S' V') := T11.out.grew bb12
        have e1 := conv_bytes _ n c11 _ _ (HB11.out.grew bb12)
        have e2 := conv_bytes _ n c12 _ _ B12
        rw [same_text PIH.out st HK.out.symm s1] at e2
        clear st B12 bb12 HB11 T11
        go_wp2_with fail
        go_roundw
        case rel => exact ⟨j + 1, d', N, B, R, S', V', by omega, by omega, rfl, by go_num, T12.out⟩
        case measure => simp [intOf]; omega
      · have hlt : d' < k := by omega
        refine (bpay_no N B R f n s k S' w10 T10.out.bas (by rw [PIH.out.rk]; exact hlt)).mono ?_
        rintro e w11 ⟨rfl, q11⟩
        have T11 : Hid (St w w11 N B R M D f n s k d' S' V') := T10.out.grew (q11.below _)
        clear q11 T10
        go_wp2_with fail
        refine (rpay_no M D R f n k s d' V' w11 T11.out.bsn T11.out.ref hlt).mono ?_
        rintro e w12 ⟨rfl, q12⟩
        have T12 : Hid (St w w12 N B R M D f n s k d' S' V') := T11.out.grew (q12.below _)
        have e1 := conv_bytes none 0 0 (fun _ => 0) w12 ⟨fun g => absurd g (by decide), fun i hi => absurd hi (Nat.not_lt_zero i)⟩
        clear q12 T11
        go_wp2_with fail
        go_roundw
        case rel => exact ⟨j + 1, d', N, B, R, S', V', by omega, by omega, rfl, by go_num, T12.out⟩
        case measure => simp [intOf]; omega
    · have hke : j = len3 := by omega
      subst hke
      have KB : Hid (Below w.heap.size w wr) := HT.out.below
      clear HT
      go_wp2
      go_ret
      exact ⟨rfl, KB.out⟩

theorem walk (a0 a1 a2 : Int) (a3 : Option Addr) (len3 cap3 : Nat) (z3 : Nat → Int) (a4 : Option Addr) (len4 cap4 : Nat) (A4 : Nat → Option Addr) (L4 C4 : Nat → Nat) (Z4 : Nat → Nat → Nat) (w : World)
    (w0 : (Lit.int .u32 a0).wf = true) (_w1 : (Lit.int .i64 a1).wf = true) (_w2 : (Lit.int .i64 a2).wf = true) (w3 : IntsAt w a3 len3 z3 ∧ len3 ≤ cap3 ∧ cap3 ≤ maxLen) (w4 : ListsAt w a4 len4 A4 L4 C4 Z4 ∧ len4 ≤ cap4 ∧ cap4 ≤ maxLen) :
    Calls Try.prog 3 #[.int .u32 a0, .int .i64 a1, .int .i64 a2, .slice a3 len3 cap3, .slice a4 len4 cap4] w fun e w' => e = .returned (.bool true) ∧ Below w.heap.size w w' := by
  have b0 := bounds_u32 w0
  obtain ⟨f, rfl⟩ : ∃ n : Nat, a0 = n := ⟨a0.toNat, by omega⟩
  by_cases hl : 12 < len3 ∨ len4 < len3
  · exact long f a1 a2 a3 len3 cap3 a4 len4 cap4 w hl
  · by_cases hk : 1 ≤ a2 ∧ a2 ≤ 64 ∧ 1 ≤ a1 ∧ a1 ≤ 32 * a2
    · obtain ⟨s, rfl⟩ : ∃ s : Nat, a2 = s := ⟨a2.toNat, by omega⟩
      obtain ⟨n, rfl⟩ : ∃ n : Nat, a1 = n := ⟨a1.toNat, by omega⟩
      exact core f n s _ a3 len3 cap3 z3 a4 len4 cap4 A4 L4 C4 Z4 w (by omega) (by omega) (by omega) (by omega) (by omega) rfl (by omega) (by omega) w3.1 w4.1
    · exact bad f a1 a2 a3 len3 cap3 a4 len4 cap4 w (by omega) (by omega) hk

set_option maxRecDepth 100000 in
theorem lifted (os : Os) (started : os.Started) (H : Type) (enc : TypeId × Value → H) :
    ReturnsInHanded {} Try.checked os 3 .any (Rows.basinAllSpec.pre6 enc Try.prog Try.f3 Rows.basinAllRow.domain false) (Rows.basinAllSpec.post enc Try.prog Try.f3 false true false false) := by
  refine returnsInHanded_of_change (C := Try.checked) own started (by kernel_rfl) Try.func3
    (ChangeSpec.witness6 (enc := enc) (C := Try.checked) false ⟨#[], #[.int .u32 0, .int .i64 0, .int .i64 0, .slice none 0 0, .slice none 0 0], []⟩ 8 (by kernel_rfl) (by kernel_rfl) (by kernel_rfl) (by kernel_rfl)) ?_
  intro W base args ds gs before hval0 hW hcnd _
  have hval : ∀ (j : Nat) t v, Try.f3.params[j]? = some t → args[j]? = some v → Value.okWide Try.prog W .any base t v := hval0
  have hW' := hW
  obtain ⟨p, q, hA0, hV, rfl, hfz, hnd⟩ := hW
  have hA : DataW.TrodAll enc Try.prog W 0 (fun _ => true) true Try.f3.params.toList args.toList ds p := hA0
  rw [Try.params3] at hA hval
  obtain ⟨v0, vs0, d0, ds0, p0, q0, hargs, rfl, rfl, h0, r0⟩ := trodAll_cons hA
  obtain ⟨v1, vs1, d1, ds1, p1, q1, rfl, rfl, rfl, h1, r1⟩ := trodAll_cons r0
  obtain ⟨v2, vs2, d2, ds2, p2, q2, rfl, rfl, rfl, h2, r2⟩ := trodAll_cons r1
  obtain ⟨v3, vs3, d3, ds3, p3, q3, rfl, rfl, rfl, h3, r3⟩ := trodAll_cons r2
  obtain ⟨v4, vs4, d4, ds4, p4, q4, rfl, rfl, rfl, h4, r4⟩ := trodAll_cons r3
  obtain ⟨rfl, rfl, rfl⟩ := trodAll_nil r4
  obtain rfl : args = #[v0, v1, v2, v3, v4] := by cases args; simp_all
  obtain ⟨rfl, rfl⟩ := trodVars_none hV
  obtain ⟨a0, rfl, rfl, rfl, w0⟩ := open_int Try.underlying22 (hval 0 22 v0 rfl rfl) h0
  obtain ⟨a1, rfl, rfl, rfl, w1⟩ := open_int Try.underlying3 (hval 1 3 v1 rfl rfl) h1
  obtain ⟨a2, rfl, rfl, rfl, w2⟩ := open_int Try.underlying3 (hval 2 3 v2 rfl rfl) h2
  obtain ⟨a3, len3, cap3, rfl⟩ := okWide_slice Try.underlying23 (hval 3 23 v3 rfl rfl)
  have k3 := h3
  have lt3 : ∀ x ∈ p3, x.block < W.heap.size := by obtain ⟨m, hm⟩ := k3; exact DataW.trod_lt m _ _ _ hm
  obtain ⟨x3, w3⟩ := open_ints Try.underlying23 Try.underlying3 (by kernel_rfl) h3
  obtain ⟨a4, len4, cap4, rfl⟩ := okWide_slice Try.underlying24 (hval 4 24 v4 rfl rfl)
  have k4 := h4
  have lt4 : ∀ x ∈ p4, x.block < W.heap.size := by obtain ⟨m, hm⟩ := k4; exact DataW.trod_lt m _ _ _ hm
  obtain ⟨A4, L4, C4, Z4, w4⟩ := open_lists Try.underlying24 Try.underlying34 Try.underlying5 (by kernel_rfl) (by kernel_rfl) h4
  clear hA0 hval0
  refine (walk a0 a1 a2 a3 len3 cap3 x3 a4 len4 cap4 A4 L4 C4 Z4 W w0 w1 w2 w3 w4).mono fun e W' ⟨he, bel⟩ => ?_
  subst he
  exact ⟨_, rfl, _, _, _, [], _, [], hW', trodAll_mk1 (shut_bool Try.underlying4 _), (trodAll_cons_mk (shut_int Try.underlying22 w0) (trodAll_cons_mk (shut_int Try.underlying3 w1) (trodAll_cons_mk (shut_int Try.underlying3 w2) (trodAll_cons_mk (Below.trod laidOut (by kernel_rfl) (of_decide_eq_true (by kernel_rfl)) k3 bel lt3) (trodAll_cons_mk (Below.trod laidOut (by kernel_rfl) (of_decide_eq_true (by kernel_rfl)) k4 bel lt4) trodAll_mk0))))), rfl, bel.frame _, fun h => by cases h⟩

theorem over : Rows.basinAllRow.holds Try.pinned (OpenSpec.ofChange Rows.basinAllSpec) :=
  OpenClaim.holds_of_wide 3 Try.f3 rfl rfl rfl rfl rfl rfl rfl ⟨rfl, rfl, rfl, rfl, rfl⟩ rfl rfl rfl rfl rfl (by kernel_rfl) Try.func3 (by kernel_rfl)
    (of_decide_eq_true (by kernel_rfl)) (by unfold Func.isWrapper; first | (rw [if_pos (by decide +kernel)]; kernel_rfl) | (rw [if_neg (by decide +kernel)]; exact ⟨rfl, rfl⟩))
    (fun os started H enc _ => lifted os started H enc)

theorem proved : Rows.BasinAllSaid := over
end Go.Proofs.Ytgbeklifcchmlaa.basinAll
namespace Go.Proofs.Ytgbeklifcchmlaa
theorem basinAll_holds : Rows.BasinAllSaid := basinAll.proved
#print axioms basinAll_holds
end Go.Proofs.Ytgbeklifcchmlaa

/-
  Which rows say more, how many there are, and what all of them say, in any run: as the document has it, for every ten rows, every number of unknowns and every size: the call returns true (no condition).
-/
import Derived.Test.YtejcalpnidgmoaaRows
import Derived.WalkKit
import Derived.ProofKit
import Derived.OpenShut
import Derived.ShutString
import Derived.ChangeOld
import Derived.Below
import Derived.Carry
import Derived.Test.YtejcalpnidgmoaaOpn
import Derived.Test.YtejcalpnidgmoaaRad
import Derived.Deep.RegionHeld3
namespace Go.Proofs.Ytejcalpnidgmoaa.basisAll
open Go.ChangeShapes Go.WideShapes Go.ChangeAt Go.RowKit
open Go.ChangeMaps (open_string shut_string)
set_option linter.unusedVariables false

theorem own : ownKnob Try.prog.godebug = none := by kernel_rfl
theorem laidOut : laidOutB Try.prog = true := by kernel_rfl

open Go.Deep

theorem wpAnyH_mono {P : Program} {md : Region.Mode} {ops : Array Oper} {Q : Exit → Act → World → Prop} {S S' : World → Prop} (h : ∀ w, S' w → S w) : ∀ (fuel : Nat) (listed : Array Bool) (a : Act) (w : World), wpAnyH P md ops Q S' fuel listed a w → wpAnyH P md ops Q S fuel listed a w
  | 0, _, _, _, hh => hh
  | fuel + 1, _, _, _, hh => ⟨hh.1, fun i hi => wpOp_mono (fun a' w' h' => ⟨h _ h'.1, wpAnyH_mono h fuel _ a' w' h'.2⟩) (hh.2 i hi)⟩

theorem bytes_keptD {w w' : World} {b m D : Nat} {y : Nat → Nat} {z : Int} (h : BytesAt w (some ⟨b, 0, none⟩) m y) (hk : Kept D w w') (hc : w.cell? ⟨D, 0, none⟩ = some (.int .i64 z)) (hm : 0 < m) : BytesAt w' (some ⟨b, 0, none⟩) m y := by
  have hne : b ≠ D := by
    rintro rfl
    have := bytes_cell h 0 hm
    rw [Nat.add_zero, hc] at this
    cases this
  refine ⟨fun hn => ?_, h.lt⟩
  obtain ⟨b', o, e, hcc⟩ := h.cells hn
  cases e
  exact ⟨b, 0, rfl, fun i hi => hk.cell (hcc i hi) hne⟩
theorem basis_keptD {w w' : World} {B R k size D : Nat} {S : Nat → Option (Nat → Nat)} {z : Int} (h : BasisAt w B R k size S) (hk : Kept D w w') (hc : w.cell? ⟨D, 0, none⟩ = some (.int .i64 z)) : BasisAt w' B R k size S := by
  have hB : B ≠ D := by
    rintro rfl
    have := h.field.powers 0 (by decide)
    rw [hc] at this
    cases this
  obtain ⟨A, hr, hA⟩ := h.room
  have hR : R ≠ D := Ne.symm (h.apart _ _ _ _ hc)
  refine ⟨⟨fun i hi => hk.cell (h.field.powers i hi) hB, fun a ha => hk.cell (h.field.logs a ha) hB⟩, hk.cell h.sz hB, hk.cell h.rows hB, ⟨A, hr.of_block (hk.block R hr.lt hR), fun i hi => ?_⟩, h.k1, h.k32, h.s1, h.s64⟩
  have hv := hA i hi
  cases hS : S i with
  | none => rw [hS] at hv; exact hv
  | some r =>
    rw [hS] at hv
    obtain ⟨b, c, e, hn, hB'⟩ := hv
    exact ⟨b, c, e, hn, bytes_keptD hB' hk hc (by have := h.k1; omega)⟩

/-- n bytes, and 0 behind them. -/
def nrm (n : Nat) (x : Nat → Nat) (j : Nat) : Nat := if j < n then x j else 0
theorem nrm_byt {n : Nat} {x : Nat → Nat} (h : ∀ i, i < n → x i < 256) : Byt (nrm n x) := fun j => by
  unfold nrm
  split
  · exact h j (by assumption)
  · exact Nat.zero_lt_succ _
theorem bytes_nrm {w : World} {a : Option Addr} {n : Nat} {x : Nat → Nat} (h : BytesAt w a n x) : BytesAt w a n (nrm n x) := h.congr fun i hi => by unfold nrm; rw [if_pos hi]
theorem cat_byt {x y : Nat → Nat} {n : Nat} (hx : Byt x) (hy : Byt y) : Byt (cat x y n) := fun j => by
  unfold cat
  split
  · exact hx j
  · exact hy _

/-- One row more: what both answer and leave. -/
theorem step_all (B R D k size d n m : Nat) (S : Nat → Option (Nat → Nat)) (V : Nat → Nat → Nat) (x y : Nat → Nat) (p : PInv k d S V) (hx : ∀ i, i < n → x i < 256) (hy : ∀ i, i < m → y i < 256) (k1 : 1 ≤ k) (k2 : k ≤ 32) (s1 : 1 ≤ size) (s2 : size ≤ 64) (hd : d ≤ 50) :
    ∃ (ans : Bool) (S' : Nat → Option (Nat → Nat)) (d' : Nat) (V' : Nat → Nat → Nat), PInv k d' S' V' ∧ d' ≤ d + 1 ∧
      (∀ w a1 c1 a2 c2, BasisAt w B R k size S → BytesAt w a1 n x → BytesAt w a2 m y → Calls Try.prog 13 #[.pointer (some ⟨B, 0, none⟩), .slice a1 n c1, .slice a2 m c2] w fun e w' => e = .returned (.bool ans) ∧ BasisAt w' B R k size S' ∧ Kept R w w') ∧
      (∀ w a1 c1 a2 c2, RefAt w D R k size d V → R < w.heap.size → BytesAt w a1 n x → BytesAt w a2 m y → Calls Try.prog 17 #[.pointer (some ⟨D, 0, none⟩), .slice a1 n c1, .slice a2 m c2] w fun e w' => e = .returned (.bool ans) ∧ RefAt w' D R k size d' V' ∧ Kept D w w') := by
  by_cases hlen : n = k ∧ m = size
  · obtain ⟨rfl, rfl⟩ := hlen
    have hv : Byt (cat (nrm n x) (nrm m y) n) := cat_byt (nrm_byt hx) (nrm_byt hy)
    have vx : ∀ {w a}, BytesAt w a n x → BytesAt w a n (cat (nrm n x) (nrm m y) n) := fun h => (bytes_nrm h).congr fun i hi => by unfold cat; rw [if_pos hi]
    have vy : ∀ {w a}, BytesAt w a m y → BytesAt w a m (fun t => cat (nrm n x) (nrm m y) n (n + t)) := fun h => (bytes_nrm h).congr fun i _ => by unfold cat; rw [if_neg (by omega), Nat.add_sub_cancel_left]
    rcases p.step hv with ⟨e, hn⟩ | ⟨S', e, p', hn⟩
    · refine ⟨false, S, d, V, p, by omega, fun w a1 c1 a2 c2 h b1 b2 => ?_, fun w a1 c1 a2 c2 h hR b1 b2 => ?_⟩
      · refine (add_yes B R n m c1 c2 a1 a2 S _ _ w h (bytes_nrm b1) (bytes_nrm b2)).mono ?_
        rintro e' w' ⟨rfl, h1, h2⟩
        rw [e] at h1 ⊢
        exact ⟨rfl, h1, h2⟩
      · refine (radd_yes D R n m d c1 c2 V _ a1 a2 w h (vx b1) (vy b2) p.byt hv k1 k2 s1 s2 hd hR).mono ?_
        rintro e' w' ⟨q, Vr, T, st, h1, h2⟩
        have hq := hn q Vr T st
        rcases h1 with ⟨-, rfl, h3⟩ | ⟨hlt, -⟩
        · exact ⟨rfl, h3, h2⟩
        · omega
    · refine ⟨true, S', d + 1, _, p', by omega, fun w a1 c1 a2 c2 h b1 b2 => ?_, fun w a1 c1 a2 c2 h hR b1 b2 => ?_⟩
      · refine (add_yes B R n m c1 c2 a1 a2 S _ _ w h (bytes_nrm b1) (bytes_nrm b2)).mono ?_
        rintro e' w' ⟨rfl, h1, h2⟩
        rw [e] at h1 ⊢
        exact ⟨rfl, h1, h2⟩
      · refine (radd_yes D R n m d c1 c2 V _ a1 a2 w h (vx b1) (vy b2) p.byt hv k1 k2 s1 s2 hd hR).mono ?_
        rintro e' w' ⟨q, Vr, T, st, h1, h2⟩
        have hq := hn q Vr T st
        rcases h1 with ⟨hle, -⟩ | ⟨-, rfl, h3⟩
        · omega
        · exact ⟨rfl, h3, h2⟩
  · have hno : n ≠ k ∨ m ≠ size := by omega
    refine ⟨false, S, d, V, p, by omega, fun w a1 c1 a2 c2 h _ _ => ?_, fun w a1 c1 a2 c2 h _ _ _ => ?_⟩
    · refine (add_no B R k size n m c1 c2 a1 a2 S w h hno).mono ?_
      rintro e w' ⟨rfl, rfl⟩
      exact ⟨rfl, h, Kept.refl _ _⟩
    · refine (radd_no D R k size d n m c1 c2 V a1 a2 w h hno).mono ?_
      rintro e w' ⟨rfl, rfl⟩
      exact ⟨rfl, h, Kept.refl _ _⟩

/-- What stands between the rounds. -/
structure St (w wr : World) (B R D k size d : Nat) (S : Nat → Option (Nat → Nat)) (V : Nat → Nat → Nat) : Prop where
  basis : BasisAt wr B R k size S
  ref : RefAt wr D R k size d V
  inv : PInv k d S V
  gr : w.heap.size ≤ R
  gd : w.heap.size ≤ D
  below : Below w.heap.size w wr
theorem St.grew {w wr w' : World} {B R D k size d : Nat} {S : Nat → Option (Nat → Nat)} {V : Nat → Nat → Nat} (h : St w wr B R D k size d S V) (hb : Below wr.heap.size wr w') : St w w' B R D k size d S V :=
  ⟨h.basis.grew hb, h.ref.grew hb, h.inv, h.gr, h.gd, h.below.trans (hb.mono h.below.size)⟩
theorem lent_head {w : World} {b n : Nat} {x : Nat → Nat} (h : BytesAt w (some ⟨b, 0, none⟩) (n + 5) (lentOf x n)) : BytesAt w (some ⟨b, 0, none⟩) n x := (h.take (m := n) (by omega)).congr fun i hi => by unfold lentOf; rw [if_pos hi]

set_option maxRecDepth 100000 in
set_option maxHeartbeats 400000 in
theorem rank_nil (w : World) : Calls Try.prog 14 #[.pointer none] w fun e w' => e = .returned (.int .i64 0) ∧ w' = w := by
  go_enter Try.func14, Try.ntmps14
  go_wp2_with (go_at_call 24; refine (bmade_nil _).mono ?_; rintro e w0 ⟨rfl, rfl⟩)
  go_ret
  exact ⟨rfl, rfl⟩

set_option maxRecDepth 100000 in
set_option maxHeartbeats 1000000 in
theorem bad (k size : Int) (a2 : Option Addr) (len2 cap2 : Nat) (a3 : Option Addr) (len3 cap3 : Nat) (w : World) (hl : len2 ≤ 10) (hl3 : len2 ≤ len3) (hno : ¬ (1 ≤ k ∧ k ≤ 32 ∧ 1 ≤ size ∧ size ≤ 64)) :
    Calls Try.prog 3 #[.int .i64 k, .int .i64 size, .slice a2 len2 cap2, .slice a3 len3 cap3] w fun e w' => e = .returned (.bool true) ∧ Below w.heap.size w w' := by
  have i1 : (len2 : Int) ≤ 10 := by omega
  have i2 : ¬ ((len3 : Int) < (len2 : Int)) := by omega
  have HN : Hid (¬ (1 ≤ k ∧ k ≤ 32 ∧ 1 ≤ size ∧ size ≤ 64)) := hno
  clear hno
  go_enter Try.func3, Try.ntmps3
  go_wp2_with fail
  refine (begun2_any _).mono ?_
  rintro e w1 ⟨rfl, hb1⟩
  go_wp2_with fail
  refine (new_any _).mono ?_
  rintro e w2 ⟨rfl, hb2, hf2, hs2⟩
  go_wp2_with fail
  refine (newBasis_no w1.heap.size k size _ hf2 HN.out).mono ?_
  rintro e w3 ⟨rfl, q3⟩
  have K3 : Hid (Below w.heap.size w w3) := (hb1.trans (hb2.mono hb1.size)).trans (q3.below _)
  clear hb1 hb2 hf2 hs2 q3
  go_wp2_with fail
  refine (rnew_no k size w3 HN.out).mono ?_
  rintro e wx ⟨rfl, hx⟩
  subst wx
  go_wp2_with fail
  refine (solve_nil w3).mono ?_
  rintro e w4 ⟨rfl, q4⟩
  have K4 : Hid (Below w.heap.size w w4) := K3.out.trans (q4.below _)
  clear K3 q4
  go_wp2_with fail
  refine (newBasis_nil 2 2 w4).mono ?_
  rintro e w5 ⟨rfl, q5⟩
  have K5 : Hid (Below w.heap.size w w5) := K4.out.trans (q5.below _)
  clear K4 q5
  go_wp2_with fail
  refine (add_nil _ _ w5).mono ?_
  rintro e wx ⟨rfl, hx⟩
  subst wx
  go_wp2_with fail
  refine (rank_nil w5).mono ?_
  rintro e wx ⟨rfl, hx⟩
  subst wx
  go_wp2_with fail
  refine (copy_nil w5).mono ?_
  rintro e wx ⟨rfl, hx⟩
  subst wx
  go_wp2
  go_ret
  exact ⟨rfl, K5.out⟩

set_option maxRecDepth 100000 in
set_option maxHeartbeats 400000 in
theorem long (k size : Int) (a2 : Option Addr) (len2 cap2 : Nat) (a3 : Option Addr) (len3 cap3 : Nat) (w : World) (hl : 10 < len2 ∨ len3 < len2) :
    Calls Try.prog 3 #[.int .i64 k, .int .i64 size, .slice a2 len2 cap2, .slice a3 len3 cap3] w fun e w' => e = .returned (.bool true) ∧ Below w.heap.size w w' := by
  by_cases h1 : 10 < len2
  · have i1 : (10 : Int) < (len2 : Int) := by omega
    clear hl
    go_enter Try.func3, Try.ntmps3
    go_wp2_with fail
    refine (begun2_any _).mono ?_
    rintro e w1 ⟨rfl, hb1⟩
    go_wp2
    go_ret
    exact ⟨rfl, hb1⟩
  · have i1 : (len2 : Int) ≤ 10 := by omega
    have i2 : (len3 : Int) < (len2 : Int) := by omega
    clear hl
    go_enter Try.func3, Try.ntmps3
    go_wp2_with fail
    refine (begun2_any _).mono ?_
    rintro e w1 ⟨rfl, hb1⟩
    go_wp2
    go_ret
    exact ⟨rfl, hb1⟩

set_option maxRecDepth 100000 in
set_option maxHeartbeats 4000000 in
theorem core (k size : Nat) (a2 : Option Addr) (len2 cap2 : Nat) (A2 : Nat → Option Addr) (L2 C2 : Nat → Nat) (Z2 : Nat → Nat → Nat) (a3 : Option Addr) (len3 cap3 : Nat) (A3 : Nat → Option Addr) (L3 C3 : Nat → Nat) (Z3 : Nat → Nat → Nat) (w : World)
    (k1 : 1 ≤ k) (k2 : k ≤ 32) (s1 : 1 ≤ size) (s2 : size ≤ 64) (hl : len2 ≤ 10) (hl3 : len2 ≤ len3) (h2 : ListsAt w a2 len2 A2 L2 C2 Z2) (h3 : ListsAt w a3 len3 A3 L3 C3 Z3) :
    Calls Try.prog 3 #[.int .i64 (k : Int), .int .i64 (size : Int), .slice a2 len2 cap2, .slice a3 len3 cap3] w fun e w' => e = .returned (.bool true) ∧ Below w.heap.size w w' := by
  have i1 : (len2 : Int) ≤ 10 := by omega
  have i2 : ¬ ((len3 : Int) < (len2 : Int)) := by omega
  have H2 : Hid (ListsAt w a2 len2 A2 L2 C2 Z2) := h2
  have H3 : Hid (ListsAt w a3 len3 A3 L3 C3 Z3) := h3
  clear h2 h3
  go_enter Try.func3, Try.ntmps3
  go_wp2_with fail
  refine (begun2_any _).mono ?_
  rintro e w1 ⟨rfl, hb1⟩
  go_wp2_with fail
  refine (new_any _).mono ?_
  rintro e w2 ⟨rfl, hb2, hf2, hs2⟩
  go_wp2_with fail
  refine (newBasis_yes w1.heap.size k size _ hf2 k1 k2 s1 s2).mono ?_
  rintro e w3 ⟨B, R, rfl, gB, gR, b3, hb3⟩
  have K3 : Hid (Below w.heap.size w w3) := (hb1.trans (hb2.mono hb1.size)).trans (hb3.mono (by have := hb1.size; have := hb2.size; omega))
  have GR : Hid (w.heap.size ≤ R) := by show w.heap.size ≤ R; have := hb1.size; have := hb2.size; omega
  clear hb1 hb2 hf2 hs2 hb3 gB gR
  go_wp2_with fail
  refine (rnew_yes k size R w3 k1 k2 s1 s2).mono ?_
  rintro e w4 ⟨D, rfl, gD, r4, hb4⟩
  have T4 : Hid (St w w4 B R D k size 0 (fun _ => none) (fun _ _ => 0)) := ⟨b3.grew hb4, r4, PInv.empty k _, GR.out, by have := K3.out.size; omega, K3.out.trans (hb4.mono K3.out.size)⟩
  clear b3 r4 hb4 gD K3 GR
  go_wp2_with fail
  go_loopw [18] (fun i wr => ∃ (j d : Nat) (S : Nat → Option (Nat → Nat)) (V : Nat → Nat → Nat), j ≤ len2 ∧ d ≤ j ∧ i = .int .i64 j ∧ St w wr B R D k size d S V) (fun i _ => len2 - (intOf i).toNat)
  case atStart => exact ⟨0, 0, _, _, Nat.zero_le _, Nat.zero_le _, rfl, T4.out⟩
  case round =>
    clear T4
    obtain ⟨j, d, S, V, hj, hdj, rfl, hT⟩ := hrel
    have HT : Hid (St w wr B R D k size d S V) := hT
    clear hT
    by_cases hjk : j < len2
    · obtain ⟨rb, ro, rfl, HR⟩ := H2.out (by omega)
      obtain ⟨db, dz, rfl, HD⟩ := H3.out (by omega)
      obtain ⟨qr, l1, l2, BR⟩ := HR j hjk
      obtain ⟨qd, l3, l4, BD⟩ := HD j (by omega)
      have er : wr.cell? ⟨rb, ro + j, none⟩ = some (.slice (A2 j) (L2 j) (C2 j)) := (HT.out.below.cell (p := ⟨rb, ro + j, none⟩) (cell_lt qr)).trans qr
      have ed : wr.cell? ⟨db, dz + j, none⟩ = some (.slice (A3 j) (L3 j) (C3 j)) := (HT.out.below.cell (p := ⟨db, dz + j, none⟩) (cell_lt qd)).trans qd
      have j1 : (j : Int) < (len2 : Int) := by omega
      have j2 : (j : Int) < (len3 : Int) := by omega
      clear HR HD
      by_cases hbig : 40 < L2 j ∨ 70 < L3 j
      · have KB : Hid (Below w.heap.size w wr) := HT.out.below
        by_cases hb1 : 40 < L2 j
        · have m1 : (40 : Int) < ((L2 j : Nat) : Int) := by omega
          clear HT BR BD hbig
          go_wp2
          go_ret
          exact ⟨rfl, KB.out⟩
        · have m1 : ((L2 j : Nat) : Int) ≤ 40 := by omega
          have m2 : (70 : Int) < ((L3 j : Nat) : Int) := by omega
          clear HT BR BD hbig
          go_wp2
          go_ret
          exact ⟨rfl, KB.out⟩
      have m1 : ((L2 j : Nat) : Int) ≤ 40 := by omega
      have m2 : ((L3 j : Nat) : Int) ≤ 70 := by omega
      obtain ⟨ans, S', d', V', pi, hd', sp, sr⟩ := step_all B R D k size d (L2 j) (L3 j) S V (Z2 j) (Z3 j) HT.out.inv BR.lt BD.lt k1 k2 s1 s2 (by omega)
      have BRH : Hid (BytesAt w (A2 j) (L2 j) (Z2 j)) := BR
      have BDH : Hid (BytesAt w (A3 j) (L3 j) (Z3 j)) := BD
      have SPH : Hid _ := sp
      have SRH : Hid _ := sr
      have PIH : Hid (PInv k d' S' V') := pi
      have QRH : Hid (w.cell? ⟨rb, ro + j, none⟩ = some (.slice (A2 j) (L2 j) (C2 j))) := qr
      have QDH : Hid (w.cell? ⟨db, dz + j, none⟩ = some (.slice (A3 j) (L3 j) (C3 j))) := qd
      clear BR BD sp sr pi qr qd
      go_wp2_with fail
      have BR := BRH.out
      have BD := BDH.out
      have qr := QRH.out
      have qd := QDH.out
      refine wp_region_held (S := fun w' => w'.cell? ⟨rb, ro + j, none⟩ = some (.slice (A2 j) (L2 j) (C2 j)) ∧ w'.cell? ⟨db, dz + j, none⟩ = some (.slice (A3 j) (L3 j) (C3 j))) (by kernel_rfl) ?_
      change wpAnyH _ _ _ _ _ _ _ _ wr.drew
      have T1 : St w wr.drew B R D k size d S V := HT.out.grew (Below.refl _ wr).drew
      have hr : wr.drew.cell? ⟨rb, ro + j, none⟩ = some (.slice (A2 j) (L2 j) (C2 j)) ∧ wr.drew.cell? ⟨db, dz + j, none⟩ = some (.slice (A3 j) (L3 j) (C3 j)) := ⟨(T1.below.cell (p := ⟨rb, ro + j, none⟩) (cell_lt qr)).trans qr, (T1.below.cell (p := ⟨db, dz + j, none⟩) (cell_lt qd)).trans qd⟩
      clear HT
      generalize wr.drew = w1 at *
      refine wpAnyH_take (i := 0) (v := .slice (some ⟨rb, ro, none⟩) len2 cap2) rfl (by kernel_rfl) (by kernel_rfl) (by kernel_rfl) (fun _ _ _ h => h) (Yields.yieldsIf (Or.inl ⟨by kernel_rfl, fun _ => by kernel_rfl⟩)) hr ?_
      refine wpAnyH_take (i := 1) (v := .int .i64 (j : Int)) rfl (by kernel_rfl) (by kernel_rfl) (by kernel_rfl) (fun _ _ _ h => h) (Yields.yieldsIf (Or.inl ⟨by kernel_rfl, fun _ => by kernel_rfl⟩)) hr ?_
      refine wpAnyH_take (i := 2) (v := .pointer (some ⟨rb, ro + j, none⟩)) rfl (by kernel_rfl) (by kernel_rfl) (by kernel_rfl) (fun _ _ _ h => h) (Yields.yieldsIf (Or.inl ⟨by kernel_rfl, fun _ => by go_simp⟩)) hr ?_
      refine wpAnyH_take (i := 3) (v := .slice (A2 j) (L2 j) (C2 j)) rfl (by kernel_rfl) (by kernel_rfl) (by kernel_rfl) (fun _ _ _ h => h) (Or.inl ⟨by kernel_rfl, fun W hW => by have g := hW.1; go_simp⟩) hr ?_
      refine wpAnyH_take (i := 5) (v := .slice (some ⟨db, dz, none⟩) len3 cap3) rfl (by kernel_rfl) (by kernel_rfl) (by kernel_rfl) (fun _ _ _ h => h) (Yields.yieldsIf (Or.inl ⟨by kernel_rfl, fun _ => by kernel_rfl⟩)) hr ?_
      refine wpAnyH_take (i := 6) (v := .int .i64 (j : Int)) rfl (by kernel_rfl) (by kernel_rfl) (by kernel_rfl) (fun _ _ _ h => h) (Yields.yieldsIf (Or.inl ⟨by kernel_rfl, fun _ => by kernel_rfl⟩)) hr ?_
      refine wpAnyH_take (i := 7) (v := .pointer (some ⟨db, dz + j, none⟩)) rfl (by kernel_rfl) (by kernel_rfl) (by kernel_rfl) (fun _ _ _ h => h) (Yields.yieldsIf (Or.inl ⟨by kernel_rfl, fun _ => by go_simp⟩)) hr ?_
      refine wpAnyH_take (i := 8) (v := .slice (A3 j) (L3 j) (C3 j)) rfl (by kernel_rfl) (by kernel_rfl) (by kernel_rfl) (fun _ _ _ h => h) (Or.inl ⟨by kernel_rfl, fun W hW => by have g := hW.2; go_simp⟩) hr ?_
      refine wpAnyH_ready (rs := [4]) (by kernel_rfl) (by simp) ?_
      refine AllReadyH.cons rfl (fun K2 hK2 => ?_) AllReadyH.nil
      go_simp
      refine (lent_any (A2 j) (L2 j) (C2 j) (Z2 j) w1 (BR.below T1.below (Nat.le_refl _)) (by omega)).mono ?_
      rintro e w2 ⟨rfl, XL, hb2, -⟩
      have T2 := T1.grew hb2
      refine hK2.out _ _ ⟨(T2.below.cell (p := ⟨rb, ro + j, none⟩) (cell_lt qr)).trans qr, (T2.below.cell (p := ⟨db, dz + j, none⟩) (cell_lt qd)).trans qd⟩ (fun hr => ?_)
      clear hK2 K2
      refine wpAnyH_ready (rs := [9]) (by kernel_rfl) (by simp) ?_
      refine AllReadyH.cons rfl (fun K2 hK2 => ?_) AllReadyH.nil
      go_simp
      refine (lent_any (A3 j) (L3 j) (C3 j) (Z3 j) w2 (BD.below T2.below (Nat.le_refl _)) (by omega)).mono ?_
      rintro e w3 ⟨rfl, YL, hb3, -⟩
      have T3 := T2.grew hb3
      have XL := XL.grew hb3
      refine hK2.out _ _ ⟨(T3.below.cell (p := ⟨rb, ro + j, none⟩) (cell_lt qr)).trans qr, (T3.below.cell (p := ⟨db, dz + j, none⟩) (cell_lt qd)).trans qd⟩ (fun hr => ?_)
      clear hK2 K2
      refine wpAnyH_ready (rs := [10]) (by kernel_rfl) (by simp) ?_
      refine AllReadyH.cons rfl (fun K2 hK2 => ?_) AllReadyH.nil
      go_simp
      refine hK2.out _ _ ⟨(T3.below.cell (p := ⟨rb, ro + j, none⟩) (cell_lt qr)).trans qr, (T3.below.cell (p := ⟨db, dz + j, none⟩) (cell_lt qd)).trans qd⟩ (fun hr => ?_)
      clear hK2 K2
      refine wpAnyH_ready (rs := [11]) (by kernel_rfl) (by simp) ?_
      refine AllReadyH.cons rfl (fun K2 hK2 => ?_) AllReadyH.nil
      go_simp
      refine hK2.out _ _ ⟨(T3.below.cell (p := ⟨rb, ro + j, none⟩) (cell_lt qr)).trans qr, (T3.below.cell (p := ⟨db, dz + j, none⟩) (cell_lt qd)).trans qd⟩ (fun hr => ?_)
      clear hK2 K2
      refine wpAnyH_done (by kernel_rfl) ?_ _
      have T3 : Hid _ := T3
      have XL : Hid _ := XL
      have YL : Hid _ := YL
      clear hr T1 T2 hb2 hb3
      go_wp2_with fail
      have sp := SPH.out
      have sr := SRH.out
      have pi := PIH.out
      refine wp_region_held (S := fun w' => w'.cell? ⟨rb, ro + j, none⟩ = some (.slice (A2 j) (L2 j) (C2 j)) ∧ w'.cell? ⟨db, dz + j, none⟩ = some (.slice (A3 j) (L3 j) (C3 j))) (by kernel_rfl) ?_
      change wpAnyH _ _ _ _ _ _ _ _ w3.drew
      have T4 : St w w3.drew B R D k size d S V := T3.out.grew (Below.refl _ w3).drew
      have XL := XL.out.grew (w' := w3.drew) (Below.refl _ w3).drew
      have YL := YL.out.grew (w' := w3.drew) (Below.refl _ w3).drew
      have hr : w3.drew.cell? ⟨rb, ro + j, none⟩ = some (.slice (A2 j) (L2 j) (C2 j)) ∧ w3.drew.cell? ⟨db, dz + j, none⟩ = some (.slice (A3 j) (L3 j) (C3 j)) := ⟨(T4.below.cell (p := ⟨rb, ro + j, none⟩) (cell_lt qr)).trans qr, (T4.below.cell (p := ⟨db, dz + j, none⟩) (cell_lt qd)).trans qd⟩
      clear T3
      generalize w3.drew = w4 at *
      refine wpAnyH_take (i := 0) (v := .pointer (some ⟨B, 0, none⟩)) rfl (by kernel_rfl) (by kernel_rfl) (by kernel_rfl) (fun _ _ _ h => h) (Yields.yieldsIf (Or.inl ⟨by kernel_rfl, fun _ => by kernel_rfl⟩)) hr ?_
      refine wpAnyH_take (i := 1) (v := .slice (some ⟨w1.heap.size, 0, none⟩) (L2 j) (L2 j + 5)) rfl (by kernel_rfl) (by kernel_rfl) (by kernel_rfl) (fun _ _ _ h => h) (Yields.yieldsIf (Or.inl ⟨by kernel_rfl, fun _ => by kernel_rfl⟩)) hr ?_
      refine wpAnyH_take (i := 2) (v := .slice (some ⟨w2.heap.size, 0, none⟩) (L3 j) (L3 j + 5)) rfl (by kernel_rfl) (by kernel_rfl) (by kernel_rfl) (fun _ _ _ h => h) (Yields.yieldsIf (Or.inl ⟨by kernel_rfl, fun _ => by kernel_rfl⟩)) hr ?_
      refine wpAnyH_take (i := 4) (v := .pointer (some ⟨D, 0, none⟩)) rfl (by kernel_rfl) (by kernel_rfl) (by kernel_rfl) (fun _ _ _ h => h) (Yields.yieldsIf (Or.inl ⟨by kernel_rfl, fun _ => by kernel_rfl⟩)) hr ?_
      refine wpAnyH_take (i := 5) (v := .slice (some ⟨rb, ro, none⟩) len2 cap2) rfl (by kernel_rfl) (by kernel_rfl) (by kernel_rfl) (fun _ _ _ h => h) (Yields.yieldsIf (Or.inl ⟨by kernel_rfl, fun _ => by kernel_rfl⟩)) hr ?_
      refine wpAnyH_take (i := 6) (v := .int .i64 (j : Int)) rfl (by kernel_rfl) (by kernel_rfl) (by kernel_rfl) (fun _ _ _ h => h) (Yields.yieldsIf (Or.inl ⟨by kernel_rfl, fun _ => by kernel_rfl⟩)) hr ?_
      refine wpAnyH_take (i := 7) (v := .pointer (some ⟨rb, ro + j, none⟩)) rfl (by kernel_rfl) (by kernel_rfl) (by kernel_rfl) (fun _ _ _ h => h) (Yields.yieldsIf (Or.inl ⟨by kernel_rfl, fun _ => by go_simp⟩)) hr ?_
      refine wpAnyH_take (i := 8) (v := .slice (A2 j) (L2 j) (C2 j)) rfl (by kernel_rfl) (by kernel_rfl) (by kernel_rfl) (fun _ _ _ h => h) (Or.inl ⟨by kernel_rfl, fun W hW => by have g := hW.1; go_simp⟩) hr ?_
      refine wpAnyH_take (i := 9) (v := .slice (some ⟨db, dz, none⟩) len3 cap3) rfl (by kernel_rfl) (by kernel_rfl) (by kernel_rfl) (fun _ _ _ h => h) (Yields.yieldsIf (Or.inl ⟨by kernel_rfl, fun _ => by kernel_rfl⟩)) hr ?_
      refine wpAnyH_take (i := 10) (v := .int .i64 (j : Int)) rfl (by kernel_rfl) (by kernel_rfl) (by kernel_rfl) (fun _ _ _ h => h) (Yields.yieldsIf (Or.inl ⟨by kernel_rfl, fun _ => by kernel_rfl⟩)) hr ?_
      refine wpAnyH_take (i := 11) (v := .pointer (some ⟨db, dz + j, none⟩)) rfl (by kernel_rfl) (by kernel_rfl) (by kernel_rfl) (fun _ _ _ h => h) (Yields.yieldsIf (Or.inl ⟨by kernel_rfl, fun _ => by go_simp⟩)) hr ?_
      refine wpAnyH_take (i := 12) (v := .slice (A3 j) (L3 j) (C3 j)) rfl (by kernel_rfl) (by kernel_rfl) (by kernel_rfl) (fun _ _ _ h => h) (Or.inl ⟨by kernel_rfl, fun W hW => by have g := hW.2; go_simp⟩) hr ?_
      refine wpAnyH_ready (rs := [3]) (by kernel_rfl) (by simp) ?_
      refine AllReadyH.cons rfl (fun K2 hK2 => ?_) AllReadyH.nil
      go_simp
      refine Calls.mono (sp w4 (some ⟨w1.heap.size, 0, none⟩) (L2 j + 5) (some ⟨w2.heap.size, 0, none⟩) (L3 j + 5) T4.basis (lent_head XL) (lent_head YL)) ?_
      rintro e w5 ⟨rfl, h5, k5⟩
      have R5 := T4.ref.kept k5 T4.basis.apart T4.basis.k1 T4.basis.s1
      have XL := XL.kept k5 T4.basis.apart
      have YL := YL.kept k5 T4.basis.apart
      have B5 : Below w.heap.size w w5 := T4.below.trans (k5.below T4.gr T4.below.size)
      have lR5 : R < w5.heap.size := Nat.lt_of_lt_of_le T4.basis.lt.2 k5.size
      refine hK2.out _ _ ⟨(B5.cell (p := ⟨rb, ro + j, none⟩) (cell_lt qr)).trans qr, (B5.cell (p := ⟨db, dz + j, none⟩) (cell_lt qd)).trans qd⟩ (fun hr => ?_)
      clear hK2 K2
      refine wpAnyH_ready (rs := [13]) (by kernel_rfl) (by simp) ?_
      refine AllReadyH.cons rfl (fun K2 hK2 => ?_) AllReadyH.nil
      go_simp
      refine Calls.mono (sr w5 (A2 j) (C2 j) (A3 j) (C3 j) R5 lR5 (BR.below B5 (Nat.le_refl _)) (BD.below B5 (Nat.le_refl _))) ?_
      rintro e w6 ⟨rfl, R6, k6⟩
      have h6 := basis_keptD h5 k6 R5.kc
      have XL := bytes_keptD XL k6 R5.kc (by omega)
      have YL := bytes_keptD YL k6 R5.kc (by omega)
      have T6 : St w w6 B R D k size d' S' V' := ⟨h6, R6, pi, T4.gr, T4.gd, B5.trans (k6.below T4.gd B5.size)⟩
      refine hK2.out _ _ ⟨(T6.below.cell (p := ⟨rb, ro + j, none⟩) (cell_lt qr)).trans qr, (T6.below.cell (p := ⟨db, dz + j, none⟩) (cell_lt qd)).trans qd⟩ (fun hr => ?_)
      clear hK2 K2
      clear T4 h5 k5 R5 B5 h6 R6 k6 sp sr
      refine wpAnyH_take (i := 14) (v := .bool false) rfl (by kernel_rfl) (by kernel_rfl) (by kernel_rfl) (fun _ _ _ h => h) (Yields.yieldsIf (Or.inl ⟨by kernel_rfl, fun _ => by go_simp⟩)) hr ?_
      refine wpAnyH_take (i := 15) (v := .bool false) rfl (by kernel_rfl) (by kernel_rfl) (by kernel_rfl) (fun _ _ _ h => h) (Yields.yieldsIf (Or.inl ⟨by kernel_rfl, fun _ => by kernel_rfl⟩)) hr ?_
      obtain ⟨va, p1, p2, -⟩ := T6.ref.rows
      obtain ⟨ra, cva, rfl⟩ := p2.form
      clear p2
      refine wpAnyH_mono (S' := fun w' => (w'.cell? ⟨rb, ro + j, none⟩ = some (.slice (A2 j) (L2 j) (C2 j)) ∧ w'.cell? ⟨db, dz + j, none⟩ = some (.slice (A3 j) (L3 j) (C3 j))) ∧ w'.cell? ⟨D, 2, none⟩ = some (.slice ra d' cva)) (fun _ h => h.1) _ _ _ _ ?_
      have hr := And.intro hr p1
      refine wpAnyH_take (i := 16) (v := .pointer (some ⟨B, 0, none⟩)) rfl (by kernel_rfl) (by kernel_rfl) (by kernel_rfl) (fun _ _ _ h => h) (Yields.yieldsIf (Or.inl ⟨by kernel_rfl, fun _ => by kernel_rfl⟩)) hr ?_
      refine wpAnyH_take (i := 18) (v := .pointer (some ⟨D, 0, none⟩)) rfl (by kernel_rfl) (by kernel_rfl) (by kernel_rfl) (fun _ _ _ h => h) (Yields.yieldsIf (Or.inl ⟨by kernel_rfl, fun _ => by kernel_rfl⟩)) hr ?_
      refine wpAnyH_take (i := 19) (v := .pointer (some ⟨D, 0, none⟩)) rfl (by kernel_rfl) (by kernel_rfl) (by kernel_rfl) (fun _ _ _ h => h) (Yields.yieldsIf (Or.inl ⟨by kernel_rfl, fun _ => by kernel_rfl⟩)) hr ?_
      refine wpAnyH_take (i := 20) (v := .pointer (some ⟨D, 2, none⟩)) rfl (by kernel_rfl) (by kernel_rfl) (by kernel_rfl) (fun _ _ _ h => h) (Yields.yieldsIf (Or.inl ⟨by kernel_rfl, fun _ => by kernel_rfl⟩)) hr ?_
      refine wpAnyH_take (i := 21) (v := .slice ra d' cva) rfl (by kernel_rfl) (by kernel_rfl) (by kernel_rfl) (fun _ _ _ h => h) (Or.inl ⟨by kernel_rfl, fun W hW => by have g := hW.2; go_simp⟩) hr ?_
      refine wpAnyH_take (i := 22) (v := .int .i64 (d' : Int)) rfl (by kernel_rfl) (by kernel_rfl) (by kernel_rfl) (fun _ _ _ h => h) (Yields.yieldsIf (Or.inl ⟨by kernel_rfl, fun _ => by kernel_rfl⟩)) hr ?_
      refine wpAnyH_ready (rs := [17]) (by kernel_rfl) (by simp) ?_
      refine AllReadyH.cons rfl (fun K2 hK2 => ?_) AllReadyH.nil
      go_simp
      refine (rank_any B R k size S' w6 T6.basis).mono ?_
      rintro e wx ⟨rfl, hx⟩
      subst wx
      rw [T6.inv.rk]
      refine hK2.out _ _ ⟨⟨(T6.below.cell (p := ⟨rb, ro + j, none⟩) (cell_lt qr)).trans qr, (T6.below.cell (p := ⟨db, dz + j, none⟩) (cell_lt qd)).trans qd⟩, p1⟩ (fun hr => ?_)
      clear hK2 K2
      refine wpAnyH_take (i := 23) (v := .bool false) rfl (by kernel_rfl) (by kernel_rfl) (by kernel_rfl) (fun _ _ _ h => h) (Yields.yieldsIf (Or.inl ⟨by kernel_rfl, fun _ => by go_simp⟩)) hr ?_
      refine wpAnyH_take (i := 24) (v := .bool false) rfl (by kernel_rfl) (by kernel_rfl) (by kernel_rfl) (fun _ _ _ h => h) (Yields.yieldsIf (Or.inl ⟨by kernel_rfl, fun _ => by kernel_rfl⟩)) hr ?_
      refine wpAnyH_take (i := 25) (v := .bool false) rfl (by kernel_rfl) (by kernel_rfl) (by kernel_rfl) (fun _ _ _ h => h) (Yields.yieldsIf (Or.inl ⟨by kernel_rfl, fun _ => by kernel_rfl⟩)) hr ?_
      refine wpAnyH_take (i := 26) (v := .slice (some ⟨w1.heap.size, 0, none⟩) (L2 j) (L2 j + 5)) rfl (by kernel_rfl) (by kernel_rfl) (by kernel_rfl) (fun _ _ _ h => h) (Yields.yieldsIf (Or.inl ⟨by kernel_rfl, fun _ => by kernel_rfl⟩)) hr ?_
      refine wpAnyH_take (i := 27) (v := .slice (some ⟨rb, ro, none⟩) len2 cap2) rfl (by kernel_rfl) (by kernel_rfl) (by kernel_rfl) (fun _ _ _ h => h) (Yields.yieldsIf (Or.inl ⟨by kernel_rfl, fun _ => by kernel_rfl⟩)) hr ?_
      refine wpAnyH_take (i := 28) (v := .int .i64 (j : Int)) rfl (by kernel_rfl) (by kernel_rfl) (by kernel_rfl) (fun _ _ _ h => h) (Yields.yieldsIf (Or.inl ⟨by kernel_rfl, fun _ => by kernel_rfl⟩)) hr ?_
      refine wpAnyH_take (i := 29) (v := .pointer (some ⟨rb, ro + j, none⟩)) rfl (by kernel_rfl) (by kernel_rfl) (by kernel_rfl) (fun _ _ _ h => h) (Yields.yieldsIf (Or.inl ⟨by kernel_rfl, fun _ => by go_simp⟩)) hr ?_
      refine wpAnyH_take (i := 30) (v := .slice (A2 j) (L2 j) (C2 j)) rfl (by kernel_rfl) (by kernel_rfl) (by kernel_rfl) (fun _ _ _ h => h) (Or.inl ⟨by kernel_rfl, fun W hW => by have g := hW.1.1; go_simp⟩) hr ?_
      refine wpAnyH_ready (rs := [31]) (by kernel_rfl) (by simp) ?_
      refine AllReadyH.cons rfl (fun K2 hK2 => ?_) AllReadyH.nil
      go_simp
      refine (whole_any (A2 j) w1.heap.size (L2 j) (C2 j) (Z2 j) w6 XL (BR.below T6.below (Nat.le_refl _)) (by omega)).mono ?_
      rintro e wx ⟨rfl, hx⟩
      subst wx
      refine hK2.out _ _ ⟨⟨(T6.below.cell (p := ⟨rb, ro + j, none⟩) (cell_lt qr)).trans qr, (T6.below.cell (p := ⟨db, dz + j, none⟩) (cell_lt qd)).trans qd⟩, p1⟩ (fun hr => ?_)
      clear hK2 K2
      refine wpAnyH_take (i := 32) (v := .bool false) rfl (by kernel_rfl) (by kernel_rfl) (by kernel_rfl) (fun _ _ _ h => h) (Yields.yieldsIf (Or.inl ⟨by kernel_rfl, fun _ => by kernel_rfl⟩)) hr ?_
      refine wpAnyH_take (i := 33) (v := .bool false) rfl (by kernel_rfl) (by kernel_rfl) (by kernel_rfl) (fun _ _ _ h => h) (Yields.yieldsIf (Or.inl ⟨by kernel_rfl, fun _ => by kernel_rfl⟩)) hr ?_
      refine wpAnyH_take (i := 34) (v := .bool false) rfl (by kernel_rfl) (by kernel_rfl) (by kernel_rfl) (fun _ _ _ h => h) (Yields.yieldsIf (Or.inl ⟨by kernel_rfl, fun _ => by kernel_rfl⟩)) hr ?_
      refine wpAnyH_take (i := 35) (v := .slice (some ⟨w2.heap.size, 0, none⟩) (L3 j) (L3 j + 5)) rfl (by kernel_rfl) (by kernel_rfl) (by kernel_rfl) (fun _ _ _ h => h) (Yields.yieldsIf (Or.inl ⟨by kernel_rfl, fun _ => by kernel_rfl⟩)) hr ?_
      refine wpAnyH_take (i := 36) (v := .slice (some ⟨db, dz, none⟩) len3 cap3) rfl (by kernel_rfl) (by kernel_rfl) (by kernel_rfl) (fun _ _ _ h => h) (Yields.yieldsIf (Or.inl ⟨by kernel_rfl, fun _ => by kernel_rfl⟩)) hr ?_
      refine wpAnyH_take (i := 37) (v := .int .i64 (j : Int)) rfl (by kernel_rfl) (by kernel_rfl) (by kernel_rfl) (fun _ _ _ h => h) (Yields.yieldsIf (Or.inl ⟨by kernel_rfl, fun _ => by kernel_rfl⟩)) hr ?_
      refine wpAnyH_take (i := 38) (v := .pointer (some ⟨db, dz + j, none⟩)) rfl (by kernel_rfl) (by kernel_rfl) (by kernel_rfl) (fun _ _ _ h => h) (Yields.yieldsIf (Or.inl ⟨by kernel_rfl, fun _ => by go_simp⟩)) hr ?_
      refine wpAnyH_take (i := 39) (v := .slice (A3 j) (L3 j) (C3 j)) rfl (by kernel_rfl) (by kernel_rfl) (by kernel_rfl) (fun _ _ _ h => h) (Or.inl ⟨by kernel_rfl, fun W hW => by have g := hW.1.2; go_simp⟩) hr ?_
      refine wpAnyH_ready (rs := [40]) (by kernel_rfl) (by simp) ?_
      refine AllReadyH.cons rfl (fun K2 hK2 => ?_) AllReadyH.nil
      go_simp
      refine (whole_any (A3 j) w2.heap.size (L3 j) (C3 j) (Z3 j) w6 YL (BD.below T6.below (Nat.le_refl _)) (by omega)).mono ?_
      rintro e wx ⟨rfl, hx⟩
      subst wx
      refine hK2.out _ _ ⟨⟨(T6.below.cell (p := ⟨rb, ro + j, none⟩) (cell_lt qr)).trans qr, (T6.below.cell (p := ⟨db, dz + j, none⟩) (cell_lt qd)).trans qd⟩, p1⟩ (fun hr => ?_)
      clear hK2 K2
      refine wpAnyH_take (i := 41) (v := .bool false) rfl (by kernel_rfl) (by kernel_rfl) (by kernel_rfl) (fun _ _ _ h => h) (Yields.yieldsIf (Or.inl ⟨by kernel_rfl, fun _ => by kernel_rfl⟩)) hr ?_
      refine wpAnyH_take (i := 42) (v := .bool false) rfl (by kernel_rfl) (by kernel_rfl) (by kernel_rfl) (fun _ _ _ h => h) (Yields.yieldsIf (Or.inl ⟨by kernel_rfl, fun _ => by kernel_rfl⟩)) hr ?_
      refine wpAnyH_done (by kernel_rfl) ?_ _
      have T6 : Hid (St w w6 B R D k size d' S' V') := T6
      clear hr p1 XL YL
      go_wp2_with fail
      clear pi BR BD qr qd er ed BRH BDH SPH SRH QRH QDH
      by_cases hfull : d' = k
      · subst hfull
        refine (solve_yes B R d' size S' w6 T6.out.basis T6.out.inv.rk).mono ?_
        rintro e w7 ⟨LL, AA, rfl, -, hA, hY, hb7⟩
        have T7 : Hid (St w w7 B R D d' size d' S' V') := T6.out.grew hb7
        have AY : Hid (w7.rowIs LL 37 d' AA ∧ SymsTo w7 LL d' size S' d' AA) := ⟨hA, hY⟩
        clear hA hY hb7 T6
        go_wp2_with fail
        refine (rsolve_yes D R d' size d' V' w7 T7.out.ref (Nat.le_refl _) PIH.out.byt k1 k2 s1 s2 (by omega)).mono ?_
        rintro e w8 ⟨gb8, cb8, n8, Vr, T, rfl, st, L8, hb8⟩
        have T8 : Hid (St w w8 B R D d' size d' S' V') := T7.out.grew hb8
        have X1 : Hid (Txts w8 LL d' size (fun i t => Vr i (d' + t))) := fun i hi => by
          obtain ⟨r, b, c, h1, h2, -, h4⟩ := AY.out.2 i hi
          have e := PIH.out.solved st i hi r h1
          refine ⟨_, c, (hb8.cell (p := ⟨LL, i, none⟩) AY.out.1.lt).trans (by rw [AY.out.1.cell hi, h2]), (h4.grew hb8).congr fun t _ => by show r (d' + t) = Vr i (d' + t); rw [e]⟩
        have X2 : Hid (Txts w8 gb8 d' size (fun i t => Vr i (d' + t))) := fun i hi => by
          obtain ⟨b, c, h1, h2, -⟩ := L8.at i hi
          exact ⟨_, c, h1, h2⟩
        clear st L8 hb8 AY T7
        go_wp2_with fail
        refine (same_yes LL gb8 d' size d' cb8 _ w8 X1.out X2.out (by omega)).mono ?_
        rintro e w9 ⟨rfl, q9⟩
        have T9 : Hid (St w w9 B R D d' size d' S' V') := T8.out.grew (q9.below _)
        clear X1 X2 T8 q9
        go_wp2_with fail
        go_roundw
        case rel => exact ⟨j + 1, d', S', V', by omega, by omega, by go_num, T9.out⟩
        case measure => simp [intOf]; omega
      · have hlt : d' < k := by have := rankTo_le S' k; have := PIH.out.rk; omega
        refine (solve_no B R k size S' w6 T6.out.basis (by rw [PIH.out.rk]; exact hlt)).mono ?_
        rintro e w7 ⟨rfl, q7⟩
        have T7 : Hid (St w w7 B R D k size d' S' V') := T6.out.grew (q7.below _)
        clear q7 T6
        go_wp2_with fail
        refine (rsolve_no D R k size d' V' w7 T7.out.ref hlt).mono ?_
        rintro e w8 ⟨rfl, q8⟩
        have T8 : Hid (St w w8 B R D k size d' S' V') := T7.out.grew (q8.below _)
        clear q8 T7
        go_wp2_with fail
        refine (same_nil w8).mono ?_
        rintro e w9 ⟨rfl, q9⟩
        have T9 : Hid (St w w9 B R D k size d' S' V') := T8.out.grew (q9.below _)
        clear T8 q9
        go_wp2_with fail
        go_roundw
        case rel => exact ⟨j + 1, d', S', V', by omega, by omega, by go_num, T9.out⟩
        case measure => simp [intOf]; omega
    · have hke : j = len2 := by omega
      subst hke
      have KB : Hid (Below w.heap.size w wr) := HT.out.below
      clear HT
      go_wp2
      go_ret
      exact ⟨rfl, KB.out⟩

theorem walk (a0 a1 : Int) (a2 : Option Addr) (len2 cap2 : Nat) (A2 : Nat → Option Addr) (L2 C2 : Nat → Nat) (Z2 : Nat → Nat → Nat) (a3 : Option Addr) (len3 cap3 : Nat) (A3 : Nat → Option Addr) (L3 C3 : Nat → Nat) (Z3 : Nat → Nat → Nat) (w : World)
    (_w0 : (Lit.int .i64 a0).wf = true) (_w1 : (Lit.int .i64 a1).wf = true) (w2 : ListsAt w a2 len2 A2 L2 C2 Z2 ∧ len2 ≤ cap2 ∧ cap2 ≤ maxLen) (w3 : ListsAt w a3 len3 A3 L3 C3 Z3 ∧ len3 ≤ cap3 ∧ cap3 ≤ maxLen) :
    Calls Try.prog 3 #[.int .i64 a0, .int .i64 a1, .slice a2 len2 cap2, .slice a3 len3 cap3] w fun e w' => e = .returned (.bool true) ∧ Below w.heap.size w w' := by
  by_cases hl : 10 < len2 ∨ len3 < len2
  · exact long a0 a1 a2 len2 cap2 a3 len3 cap3 w hl
  · by_cases hk : 1 ≤ a0 ∧ a0 ≤ 32 ∧ 1 ≤ a1 ∧ a1 ≤ 64
    · obtain ⟨k, rfl⟩ : ∃ k : Nat, a0 = k := ⟨a0.toNat, by omega⟩
      obtain ⟨s, rfl⟩ : ∃ s : Nat, a1 = s := ⟨a1.toNat, by omega⟩
      exact core k s a2 len2 cap2 A2 L2 C2 Z2 a3 len3 cap3 A3 L3 C3 Z3 w (by omega) (by omega) (by omega) (by omega) (by omega) (by omega) w2.1 w3.1
    · exact bad a0 a1 a2 len2 cap2 a3 len3 cap3 w (by omega) (by omega) hk

set_option maxRecDepth 100000 in
theorem lifted (os : Os) (started : os.Started) (H : Type) (enc : TypeId × Value → H) :
    ReturnsInHanded {} Try.checked os 3 .any (Rows.basisAllSpec.pre6 enc Try.prog Try.f3 Rows.basisAllRow.domain false) (Rows.basisAllSpec.post enc Try.prog Try.f3 false true false false) := by
  refine returnsInHanded_of_change (C := Try.checked) own started (by kernel_rfl) Try.func3
    (ChangeSpec.witness6 (enc := enc) (C := Try.checked) false ⟨#[], #[.int .i64 0, .int .i64 0, .slice none 0 0, .slice none 0 0], []⟩ 8 (by kernel_rfl) (by kernel_rfl) (by kernel_rfl) (by kernel_rfl)) ?_
  intro W base args ds gs before hval0 hW hcnd _
  have hval : ∀ (j : Nat) t v, Try.f3.params[j]? = some t → args[j]? = some v → Value.okWide Try.prog W .any base t v := hval0
  have hW' := hW
  obtain ⟨p, q, hA0, hV, rfl, hfz, hnd⟩ := hW
  have hA : DataW.TrodAll enc Try.prog W 0 (fun _ => true) true Try.f3.params.toList args.toList ds p := hA0
  rw [Try.params3] at hA hval
  obtain ⟨v0, vs0, d0, ds0, p0, q0, hargs, rfl, rfl, h0, r0⟩ := trodAll_cons hA
  obtain ⟨v1, vs1, d1, ds1, p1, q1, rfl, rfl, rfl, h1, r1⟩ := trodAll_cons r0
  obtain ⟨v2, vs2, d2, ds2, p2, q2, rfl, rfl, rfl, h2, r2⟩ := trodAll_cons r1
  obtain ⟨v3, vs3, d3, ds3, p3, q3, rfl, rfl, rfl, h3, r3⟩ := trodAll_cons r2
  obtain ⟨rfl, rfl, rfl⟩ := trodAll_nil r3
  obtain rfl : args = #[v0, v1, v2, v3] := by cases args; simp_all
  obtain ⟨rfl, rfl⟩ := trodVars_none hV
  obtain ⟨a0, rfl, rfl, rfl, w0⟩ := open_int Try.underlying3 (hval 0 3 v0 rfl rfl) h0
  obtain ⟨a1, rfl, rfl, rfl, w1⟩ := open_int Try.underlying3 (hval 1 3 v1 rfl rfl) h1
  obtain ⟨a2, len2, cap2, rfl⟩ := okWide_slice Try.underlying22 (hval 2 22 v2 rfl rfl)
  have k2 := h2
  have lt2 : ∀ x ∈ p2, x.block < W.heap.size := by obtain ⟨m, hm⟩ := k2; exact DataW.trod_lt m _ _ _ hm
  obtain ⟨A2, L2, C2, Z2, w2⟩ := open_lists Try.underlying22 Try.underlying37 Try.underlying5 (by kernel_rfl) (by kernel_rfl) h2
  obtain ⟨a3, len3, cap3, rfl⟩ := okWide_slice Try.underlying22 (hval 3 22 v3 rfl rfl)
  have k3 := h3
  have lt3 : ∀ x ∈ p3, x.block < W.heap.size := by obtain ⟨m, hm⟩ := k3; exact DataW.trod_lt m _ _ _ hm
  obtain ⟨A3, L3, C3, Z3, w3⟩ := open_lists Try.underlying22 Try.underlying37 Try.underlying5 (by kernel_rfl) (by kernel_rfl) h3
  clear hA0 hval0
  refine (walk a0 a1 a2 len2 cap2 A2 L2 C2 Z2 a3 len3 cap3 A3 L3 C3 Z3 W w0 w1 w2 w3).mono fun e W' ⟨he, bel⟩ => ?_
  subst he
  exact ⟨_, rfl, _, _, _, [], _, [], hW', trodAll_mk1 (shut_bool Try.underlying4 _), (trodAll_cons_mk (shut_int Try.underlying3 w0) (trodAll_cons_mk (shut_int Try.underlying3 w1) (trodAll_cons_mk (Below.trod laidOut (by kernel_rfl) (of_decide_eq_true (by kernel_rfl)) k2 bel lt2) (trodAll_cons_mk (Below.trod laidOut (by kernel_rfl) (of_decide_eq_true (by kernel_rfl)) k3 bel lt3) trodAll_mk0)))), rfl, bel.frame _, fun h => by cases h⟩

theorem over : Rows.basisAllRow.holds Try.pinned (OpenSpec.ofChange Rows.basisAllSpec) :=
  OpenClaim.holds_of_wide 3 Try.f3 rfl rfl rfl rfl rfl rfl rfl ⟨rfl, rfl, rfl, rfl, rfl⟩ rfl rfl rfl rfl rfl (by kernel_rfl) Try.func3 (by kernel_rfl)
    (of_decide_eq_true (by kernel_rfl)) (by unfold Func.isWrapper; first | (rw [if_pos (by decide +kernel)]; kernel_rfl) | (rw [if_neg (by decide +kernel)]; exact ⟨rfl, rfl⟩))
    (fun os started H enc _ => lifted os started H enc)

theorem proved : Rows.BasisAllSaid := over
end Go.Proofs.Ytejcalpnidgmoaa.basisAll
namespace Go.Proofs.Ytejcalpnidgmoaa
theorem basisAll_holds : Rows.BasisAllSaid := basisAll.proved
#print axioms basisAll_holds
end Go.Proofs.Ytejcalpnidgmoaa

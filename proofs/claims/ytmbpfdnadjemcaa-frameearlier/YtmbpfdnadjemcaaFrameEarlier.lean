/-
  A frame that may be hangs on earlier ones alone, each once, and comes behind all: the call returns true, whatever the numbers and the frame are (60 numbers and 8 refs at most are looked at; no condition).
-/
import Derived.Test.YtmbpfdnadjemcaaRows
import Derived.WalkKit
import Derived.ProofKit
import Derived.OpenShut
import Derived.ShutString
import Derived.ChangeOld
import Derived.Below
import Derived.Carry
import Derived.Test.YtmbpfdnadjemcaaOpn
import Derived.Test.YtmbpfdnadjemcaaOpf
import Derived.Test.YtmbpfdnadjemcaaFbn
import Derived.Test.YtmbpfdnadjemcaaFfr
import Derived.Test.YtmbpfdnadjemcaaFrf
namespace Go.Proofs.Ytmbpfdnadjemcaa.frameEarlier
open Go.ChangeShapes Go.WideShapes Go.ChangeAt Go.RowKit
open Go.ChangeMaps (open_string shut_string)
set_option linter.unusedVariables false

theorem own : ownKnob Try.prog.godebug = none := by kernel_rfl
theorem laidOut : laidOutB Try.prog = true := by kernel_rfl

open Go.Deep

/-- What follows of a frame that may be, at 3, in symbols of 4. -/
structure Fine (f : Fr) (r : Nat → Int) (m : Nat) (K : Nat → Fr) : Prop where
  kn : (f.k == 1) = ((f.n : Int) == 0)
  n4 : f.n ≤ 4
  d3 : 3 < f.d
  pd : f.p ≤ f.d
  s1 : 1 ≤ f.s
  s2 : f.s ≤ 128
  is : ∀ i, i < f.n → ∃ q, q < m ∧ ((K q).id : Int) = r i
  lt : ∀ i, i < f.n → r i < (f.id : Int)
  turn : 0 < m → (K (m - 1)).id < f.id ∧ (K (m - 1)).d ≤ f.d
theorem chk_fine {f : Fr} {r : Nat → Int} {m : Nat} {K : Nat → Fr} (h : chk f r m K 3 4 = 0) (hI : Inc K m) : Fine f r m K := by
  unfold chk at h
  by_cases h1 : f.terms
  case neg => simp [h1] at h
  by_cases h2 : cuts f.s 4
  case neg => simp [h1, h2] at h
  by_cases h3 : f.turn m K
  case neg => simp [h1, h2, h3] at h
  by_cases h4 : f.refs r m K
  case neg => simp [h1, h2, h3, h4] at h
  by_cases h5 : f.d ≤ 3
  · simp [h1, h2, h3, h4, h5] at h
  clear h
  obtain ⟨-, -, t1, -⟩ := h1
  obtain ⟨-, -, c1, c2⟩ := h2
  have ht : 0 < m → (K (m - 1)).id < f.id ∧ (K (m - 1)).d ≤ f.d := fun h0 => by
    rcases h3 with e | ⟨e1, -, e2⟩
    · omega
    · exact ⟨e1, e2⟩
  have hi : ∀ i, i < f.n → ∃ q, q < m ∧ ((K q).id : Int) = r i := fun i hi => by
    rcases h4 with ⟨-, e⟩ | ⟨-, -, -, e⟩
    · omega
    · exact (e i hi).2
  refine ⟨?_, ?_, by omega, t1, c1, by omega, hi, fun i hin => ?_, ht⟩
  · rcases h4 with ⟨e1, e2⟩ | ⟨e1, e2, -, -⟩
    · simp [e1, e2]
    · have q1 : (f.k == 1) = false := by simpa using e1
      have q2 : ((f.n : Int) == 0) = false := by simp; omega
      rw [q1, q2]
  · rcases h4 with ⟨-, e⟩ | ⟨-, -, e, -⟩ <;> omega
  · obtain ⟨q, hq, e⟩ := hi i hin
    have := hI.le (m - 1 - q) q (by omega)
    rw [show q + (m - 1 - q) = m - 1 by omega] at this
    have := (ht (by omega)).1
    omega
/-- Two frames in a row. -/
theorem two_at {w : World} {L : Nat} {f g : Fr} {r s : Nat → Int} (h : FrsAt w (some ⟨L, 0, none⟩) 2 (fun i => if i = 0 then f else g)) (hf : RefsAt w f r) (hg : RefsAt w g s) (k : Nat) (hk : k < 2) :
    ∃ (X : Fr) (x : Nat → Int), RefsAt w X x ∧ w.cell? ⟨L, k * 6, none⟩ = some (.int .u32 (X.id : Int)) ∧ w.cell? ⟨L, k * 6 + 1, none⟩ = some (.int .i64 X.k) ∧ w.cell? ⟨L, k * 6 + 2, none⟩ = some (.slice X.a X.n X.c) ∧
      w.cell? ⟨L, k * 6 + 3, none⟩ = some (.int .i64 X.s) ∧ w.cell? ⟨L, k * 6 + 4, none⟩ = some (.int .i64 X.p) ∧ w.cell? ⟨L, k * 6 + 5, none⟩ = some (.int .i64 X.d) := by
  have q := h.at k hk
  simp only [Nat.zero_add] at q
  by_cases e : k = 0
  · simp only [if_pos e] at q
    exact ⟨f, r, hf, q⟩
  · simp only [if_neg e] at q
    exact ⟨g, s, hg, q⟩
theorem two_made (w : World) (f g : Fr) : FrsAt (w.alloc (.cells #[.int .u32 (f.id : Int), .int .i64 f.k, .slice f.a f.n f.c, .int .i64 f.s, .int .i64 f.p, .int .i64 f.d, .int .u32 (g.id : Int), .int .i64 g.k, .slice g.a g.n g.c, .int .i64 g.s, .int .i64 g.p, .int .i64 g.d] 26)) (some ⟨w.heap.size, 0, none⟩) 2 (fun i => if i = 0 then f else g) := fun _ => ⟨_, 0, rfl, fun i hi => by
  have e : i = 0 ∨ i = 1 := by omega
  rcases e with rfl | rfl
  all_goals (refine ⟨?_, ?_, ?_, ?_, ?_, ?_⟩ <;> (rw [World.cell?_alloc_at _ _ _ _ rfl]; rfl))⟩

set_option maxRecDepth 100000 in
set_option maxHeartbeats 4000000 in
theorem core (a : Option Addr) (n c : Nat) (x : Nat → Nat) (f : Fr) (rf : Nat → Int) (w : World) (h : BytesAt w a n x) (hn : n ≤ 60) (hf : RefsAt w f rf) (hf8 : f.n ≤ 8) :
    Calls Try.prog 3 #[.slice a n c, f.val] w fun e w' => e = .returned (.bool true) ∧ Below w.heap.size w w' := by
  have i1 : decide ((60 : Int) < (n : Int)) = false := by simp; omega
  have i2 : ¬ 8 < f.n := by omega
  obtain ⟨x0, e0⟩ : ∃ x, w.alloc (.cells #[.int .u32 (f.id : Int), .int .i64 f.k, .slice f.a f.n f.c, .int .i64 f.s, .int .i64 f.p, .int .i64 f.d] 26) = x := ⟨_, rfl⟩
  have B0 : Below w.heap.size w x0 := e0 ▸ box_below w _
  have F0 : FrAt x0 w.heap.size f := e0 ▸ FrAt.made w _ f
  unfold Fr.val
  go_enter Try.func3, Try.ntmps3
  go_wp2_with fail
  clear e0
  refine (begun12 _).mono ?_
  rintro e w1 ⟨rfl, b1⟩
  have h1 := (h.grew B0).grew b1
  have HB : Hid (Below w.heap.size w w1) := B0.trans (b1.mono B0.size)
  have HF1 : Hid (FrAt w1 w.heap.size f) := F0.grew b1
  have HR1 : Hid (RefsAt w1 f rf) := (hf.grew B0).grew b1
  obtain ⟨f0, f1, f2, f3, f4, f5, -⟩ := HF1.out
  clear h B0 F0 b1 hf hf8
  go_wp2_with fail
  clear f0 f1 f2 f3 f4 f5 i1 i2
  refine (made_any a n c x w1 h1 (by omega)).mono ?_
  rintro e w2 ⟨rfl, b2, s2, pk⟩
  have HB2 : Hid (Below w1.heap.size w1 w2) := b2
  generalize hP : w1.heap.size = P at *
  have HP : Hid (w1.heap.size = P) := hP
  clear h1 b2 hP
  go_wp2_with fail
  refine (frames_any (P + 1) P 0 8 w2 pk (by omega) (by decide)).mono ?_
  rintro e w3 ⟨c3, v, m, K, R, rfl, hF, hm, hI, -⟩
  obtain ⟨r, cap, rfl, hfr, hbk⟩ := hF.any
  have HS : Hid (w2.heap.size = P + 1) := s2
  have HI : Hid (Inc K m) := hI
  obtain ⟨lo, l1, l2⟩ : ∃ lo : Nat, (m = 0 → lo = 0) ∧ (0 < m → lo = (K (m - 1)).id) := by
    by_cases e : m = 0
    · exact ⟨0, fun _ => rfl, fun h => absurd h (by omega)⟩
    · exact ⟨_, fun h => absurd h e, fun _ => rfl⟩
  obtain ⟨p3, hp3⟩ := c3.picks
  have C3 : Hid (Chose (P + 1) P w2 w3) := c3
  have HF3 : Hid (Ffo w3 w2.heap.size (.slice r m cap) m K) := hF
  have N3 : Hid (∀ (t : Nat), t ≤ 1000 → Calls Try.prog 11 #[.pointer (some ⟨P, 0, none⟩), .slice r m cap, .int .i64 (t : Int), .int .i64 4] w3 (NextIs (P + 1) P lo w3)) := fun t ht =>
    next_any (P + 1) P p3 lo r m cap K t w3 hp3 (by have := c3.kept.size; omega) ht (by omega) (fun b o e => by have := (hbk b o e).1; omega) (fun h0 => by have := hI.1 (m - 1) (by omega); omega) l1 l2 hfr
  clear hF hfr hbk l1 l2 hp3 hI pk s2 c3
  go_wp2_with fail
  refine (N3.out 3 (by decide)).mono ?_
  rintro e w4 ⟨c4, g, rg, bv, rfl, hu, hn4, -, -⟩
  have hu4 := hu.refs (by omega)
  have HF4 := HF3.out.kept c4.kept (by have := HS.out; omega)
  obtain ⟨r', cap', er, hfr4, -⟩ := HF4.any
  cases er
  have D4 : Below w1.heap.size w1 w4 := by
    have q2 := HS.out
    have q3 := C3.out.kept.size
    rw [HP.out]
    exact (HB2.out.trans (C3.out.kept.below (Nat.le_refl _) (by omega))).trans (c4.kept.below (Nat.le_refl _) (by omega))
  have HB4 : Hid (Below w.heap.size w w4) := HB.out.trans (D4.mono HB.out.size)
  obtain ⟨y0, e0⟩ : ∃ x, w4.alloc (.cells #[.int .u32 (g.id : Int), .int .i64 g.k, .slice g.a g.n g.c, .int .i64 g.s, .int .i64 g.p, .int .i64 g.d] 26) = x := ⟨_, rfl⟩
  obtain ⟨y1, e1⟩ : ∃ x, y0.alloc (.cells #[.int .u32 (f.id : Int), .int .i64 f.k, .slice f.a f.n f.c, .int .i64 f.s, .int .i64 f.p, .int .i64 f.d, .int .u32 (g.id : Int), .int .i64 g.k, .slice g.a g.n g.c, .int .i64 g.s, .int .i64 g.p, .int .i64 g.d] 26) = x := ⟨_, rfl⟩
  have B0 : Below w4.heap.size w4 y0 := e0 ▸ box_below w4 _
  have B1 : Below y0.heap.size y0 y1 := e1 ▸ box_below y0 _
  have B4 : Below w4.heap.size w4 y1 := B0.trans (B1.mono B0.size)
  have F0 := (HF1.out.grew D4).grew B0
  have G0 : FrAt y0 w4.heap.size g := e0 ▸ FrAt.made w4 _ g
  have HY : Hid (Below w.heap.size w y1) := HB4.out.trans (B4.mono HB4.out.size)
  have HRF : Hid (RefsAt y1 f rf) := (HR1.out.grew D4).grew B4
  have HRG : Hid (RefsAt y1 g rg) := hu4.grew B4
  have HK : Hid (FrsAt y1 r m K) := hfr4.grew B4
  have HL : Hid (FrsAt y1 (some ⟨y0.heap.size, 0, none⟩) 2 (fun i => if i = 0 then f else g)) := e1 ▸ two_made y0 f g
  obtain ⟨f0, f1, f2, f3, f4, f5, -⟩ := F0
  obtain ⟨g0, g1, g2, g3, g4, g5, -⟩ := G0
  clear B0 B1 B4 hu hu4 HF4 hfr4 c4 N3 C3 HF3 HB2 HS HP HB HB4 D4 HF1 HR1
  unfold Fr.val
  go_wp2_with fail
  clear e0 e1 f0 f1 f2 f3 f4 f5 g0 g1 g2 g3 g4 g5
  generalize y0.heap.size = L at *
  generalize w4.heap.size = NG at *
  go_loopw [10] (fun i wr => ∃ k : Nat, i = .int .i64 k ∧ k ≤ 2 ∧ Hid (Below y1.heap.size y1 wr)) (fun i _ => 2 - (intOf i).toNat)
  case atStart => exact ⟨0, rfl, by decide, Below.refl _ _⟩
  case round =>
    obtain ⟨k, rfl, hk, hb⟩ := hrel
    by_cases hk2 : k < 2
    case neg =>
      have k1 : decide ((k : Int) < 2) = false := by simp; omega
      have HZ : Hid (Below w.heap.size w wr) := HY.out.trans (hb.out.mono HY.out.size)
      go_wp2
      go_ret
      exact ⟨rfl, HZ.out⟩
    have k1 : (k : Int) < 2 := by omega
    obtain ⟨X, xr, hX, q0, q1, q2, q3, q4, q5⟩ := two_at (HL.out.grew hb.out) (HRF.out.grew hb.out) (HRG.out.grew hb.out) k hk2
    obtain ⟨z0, e0⟩ : ∃ x, wr.alloc (.cells #[.int .u32 (X.id : Int), .int .i64 X.k, .slice X.a X.n X.c, .int .i64 X.s, .int .i64 X.p, .int .i64 X.d] 26) = x := ⟨_, rfl⟩
    have B0 : Below wr.heap.size wr z0 := e0 ▸ box_below wr _
    have F0 : FrAt z0 wr.heap.size X := e0 ▸ FrAt.made wr _ X
    have HX : Hid (RefsAt z0 X xr) := hX.grew B0
    have HBz : Hid (Below y1.heap.size y1 z0) := hb.out.trans (B0.mono hb.out.size)
    have HFX : Hid (FrAt z0 wr.heap.size X) := F0
    obtain ⟨E, hE⟩ : ∃ E, chk X xr m K 3 4 = E := ⟨_, rfl⟩
    have HE : Hid (chk X xr m K 3 4 = E) := hE
    obtain ⟨f0, f1, f2, f3, f4, f5, -⟩ := F0
    clear B0 hX hb hE
    go_wp2_with fail
    clear e0 q0 q1 q2 q3 q4 q5 f0 f1 f2 f3 f4 f5
    generalize wr.heap.size = N at *
    refine (check_is (f := X) (r := xr) (K := K) (E := E) HE.out (by omega) HX.out (HK.out.grew HBz.out)).mono ?_
    rintro e w6 ⟨rfl, d6⟩
    have HX6 : Hid (RefsAt w6 X xr) := HX.out.grew d6
    have HF6 : Hid (FrAt w6 N X) := HFX.out.grew d6
    have HB6 : Hid (Below y1.heap.size y1 w6) := HBz.out.trans (d6.mono HBz.out.size)
    clear d6 HX HFX HBz
    by_cases hE : E = 0
    case neg =>
      have a1 : (E != 0) = true := by simpa using hE
      clear hE HE
      go_wp2_with fail
      go_roundw
      case rel => exact ⟨k + 1, by go_num, by omega, HB6⟩
      case measure => simp [intOf]; omega
    have HFN : Hid (Fine X xr m K) := chk_fine (hE ▸ HE.out) HI.out
    subst hE
    obtain ⟨f0, f1, f2, f3, f4, f5, -⟩ := HF6.out
    obtain ⟨b, a1, a2⟩ : ∃ b : Bool, (X.k == 1) = b ∧ ((X.n : Int) == 0) = b := ⟨_, HFN.out.kn, rfl⟩
    have a3 : decide ((4 : Int) < (X.n : Int)) = false := by have := HFN.out.n4; simp; omega
    have a4 : decide (X.d ≤ 3) = false := by have := HFN.out.d3; simp; omega
    have a5 : decide (X.d < X.p) = false := by have := HFN.out.pd; simp; omega
    have a6 : decide (X.s < 1) = false := by have := HFN.out.s1; simp; omega
    have a7 : decide (128 < X.s) = false := by have := HFN.out.s2; simp; omega
    clear HE
    go_wp2_with fail
    clear f0 f1 f2 f3 f4 f5 a1 a2 a3 a4 a5 a6 a7
    generalize wr = wo at *
    go_loopw [12] (fun u wr => ∃ q : Nat, u = .int .i64 q ∧ q ≤ X.n ∧ Hid (Below w6.heap.size w6 wr)) (fun u _ => X.n - (intOf u).toNat)
    case atStart => exact ⟨0, rfl, Nat.zero_le _, Below.refl _ _⟩
    case round =>
      obtain ⟨q, rfl, hqn, hb⟩ := hrel
      have hx4 : X.n ≤ 4 := HFN.out.n4
      obtain ⟨f0, f1, f2, f3, f4, f5, -⟩ := HF6.out.grew hb.out
      by_cases hq : q < X.n
      · have q1 : (q : Int) < (X.n : Int) := by omega
        obtain ⟨rb, ro, e3, hcc⟩ := (HX6.out.nums.grew hb.out) (by omega)
        have c5 := hcc q hq
        rw [e3] at f2
        have HC : Hid (∀ W, Below wr.heap.size wr W → W.cell? ⟨rb, ro + q, none⟩ = some (.int .u32 (xr q))) := fun W hW => (hW.cell (p := ⟨rb, ro + q, none⟩) (cell_lt c5)).trans c5
        have HF2 : Hid (FrAt wr N X) := HF6.out.grew hb.out
        clear hcc
        go_wp2_with fail
        refine (rfind_any r m cap K (xr q) wr (by omega) (HK.out.grew (HB6.out.trans (hb.out.mono HB6.out.size)))).mono ?_
        rintro e w7 ⟨b7, G, bb, rfl, hG⟩
        obtain rfl : bb = true := by
          rcases hG with ⟨e, -⟩ | ⟨-, hno⟩
          · exact e
          · obtain ⟨j, hj, ej⟩ := HFN.out.is q hq
            exact absurd ej (hno j hj)
        have a8 : decide ((X.id : Int) ≤ xr q) = false := by have := HFN.out.lt q hq; simp; omega
        obtain ⟨v0, e0⟩ : ∃ x, w7.alloc (.cells #[.int .u32 (G.id : Int), .int .i64 G.k, .slice G.a G.n G.c, .int .i64 G.s, .int .i64 G.p, .int .i64 G.d] 26) = x := ⟨_, rfl⟩
        have Bv : Below w7.heap.size w7 v0 := e0 ▸ box_below w7 _
        have B7 : Below wr.heap.size wr v0 := b7.trans (Bv.mono b7.size)
        have HB7 : Hid (Below w6.heap.size w6 v0.drew) := (hb.out.trans (B7.mono hb.out.size)).drew
        clear f0 f1 f2 f3 f4 f5 c5
        have c5 := HC.out v0 B7
        obtain ⟨f0, f1, f2, f3, f4, f5, -⟩ := HF2.out.grew B7
        rw [e3] at f2
        clear hG b7 Bv B7 HC HF2 hb e3
        unfold Fr.val
        go_wp2_with fail
        go_region
        go_wp2_with fail
        go_roundw
        case rel => exact ⟨q + 1, by go_num, by omega, HB7⟩
        case measure => simp [intOf]; omega
      · have q2 : decide ((q : Int) < (X.n : Int)) = false := by simp; omega
        have HB8 : Hid (Below y1.heap.size y1 wr.drew) := (HB6.out.trans (hb.out.mono HB6.out.size)).drew
        by_cases h0 : m = 0
        · have a2 : decide ((0 : Int) < (m : Int)) = false := by simp; omega
          clear hb
          go_wp2_with fail
          go_region
          go_wp2_with fail
          go_roundw
          case rel => exact ⟨k + 1, by go_num, by omega, HB8⟩
          case measure => simp [intOf]; omega
        · have a2 : (0 : Int) < (m : Int) := by omega
          have a5 : 0 < m := by omega
          have hk8 := HK.out.grew (HB6.out.trans (hb.out.mono HB6.out.size))
          obtain ⟨lb, lo', el⟩ := hk8.addr (by omega)
          subst el
          obtain ⟨t0, -, -, -, -, t5⟩ := hk8.at (m - 1) (by omega)
          have a3 : ¬ X.id ≤ (K (m - 1)).id := by have := (HFN.out.turn (by omega)).1; omega
          have a4 : ¬ X.d < (K (m - 1)).d := by have := (HFN.out.turn (by omega)).2; omega
          clear hk8 hb
          go_wp2_with fail
          go_region
          go_wp2_with fail
          go_roundw
          case rel => exact ⟨k + 1, by go_num, by omega, HB8⟩
          case measure => simp [intOf]; omega

set_option maxRecDepth 100000 in
theorem long (a : Option Addr) (n c : Nat) (f : Fr) (w : World) (hn : ¬ (n ≤ 60 ∧ f.n ≤ 8)) :
    Calls Try.prog 3 #[.slice a n c, f.val] w fun e w' => e = .returned (.bool true) ∧ Below w.heap.size w w' := by
  obtain ⟨x0, e0⟩ : ∃ x, w.alloc (.cells #[.int .u32 (f.id : Int), .int .i64 f.k, .slice f.a f.n f.c, .int .i64 f.s, .int .i64 f.p, .int .i64 f.d] 26) = x := ⟨_, rfl⟩
  have B0 : Below w.heap.size w x0 := e0 ▸ box_below w _
  have F0 : FrAt x0 w.heap.size f := e0 ▸ FrAt.made w _ f
  unfold Fr.val
  go_enter Try.func3, Try.ntmps3
  go_wp2_with fail
  clear e0
  refine (begun12 _).mono ?_
  rintro e w1 ⟨rfl, b1⟩
  have HB : Hid (Below w.heap.size w w1) := B0.trans (b1.mono B0.size)
  obtain ⟨f0, f1, f2, f3, f4, f5, -⟩ := F0.grew b1
  clear B0 F0 b1
  by_cases h6 : n ≤ 60
  · have i1 : decide ((60 : Int) < (n : Int)) = false := by simp; omega
    have i2 : 8 < f.n := by omega
    clear hn h6
    go_wp2
    go_ret
    exact ⟨rfl, HB.out⟩
  · have i1 : (60 : Int) < (n : Int) := by omega
    clear hn h6
    go_wp2
    go_ret
    exact ⟨rfl, HB.out⟩

theorem walk (a : Option Addr) (n c : Nat) (x : Nat → Nat) (f : Fr) (r : Nat → Int) (w : World) (h : BytesAt w a n x ∧ n ≤ c ∧ c ≤ maxLen) (hf : FrIn w f r) :
    Calls Try.prog 3 #[.slice a n c, f.val] w fun e w' => e = .returned (.bool true) ∧ Below w.heap.size w w' := by
  by_cases hn : n ≤ 60 ∧ f.n ≤ 8
  · exact core a n c x f r w h.1 hn.1 ⟨hf.2.1, hf.2.2.1, by omega⟩ hn.2
  · exact long a n c f w hn

set_option maxRecDepth 100000 in
theorem lifted (os : Os) (started : os.Started) (H : Type) (enc : TypeId × Value → H) :
    ReturnsInHanded {} Try.checked os 3 .any (Rows.frameEarlierSpec.pre6 enc Try.prog Try.f3 Rows.frameEarlierRow.domain false) (Rows.frameEarlierSpec.post enc Try.prog Try.f3 false true false false) := by
  refine returnsInHanded_of_change (C := Try.checked) own started (by kernel_rfl) Try.func3
    (ChangeSpec.witness6 (enc := enc) (C := Try.checked) false ⟨#[], #[.slice none 0 0, .agg #[.int .u32 0, .int .i64 0, .slice none 0 0, .int .i64 0, .int .i64 0, .int .i64 0]], []⟩ 8 (by kernel_rfl) (by kernel_rfl) (by kernel_rfl) (by kernel_rfl)) ?_
  intro W base args ds gs before hval0 hW hcnd _
  have hval : ∀ (j : Nat) t v, Try.f3.params[j]? = some t → args[j]? = some v → Value.okWide Try.prog W .any base t v := hval0
  have hW' := hW
  obtain ⟨p, q, hA0, hV, rfl, hfz, hnd⟩ := hW
  have hA : DataW.TrodAll enc Try.prog W 0 (fun _ => true) true Try.f3.params.toList args.toList ds p := hA0
  rw [Try.params3] at hA hval
  obtain ⟨v0, vs0, d0, ds0, p0, q0, hargs, rfl, rfl, h0, r0⟩ := trodAll_cons hA
  obtain ⟨v1, vs1, d1, ds1, p1, q1, rfl, rfl, rfl, h1, r1⟩ := trodAll_cons r0
  obtain ⟨rfl, rfl, rfl⟩ := trodAll_nil r1
  obtain rfl : args = #[v0, v1] := by cases args; simp_all
  obtain ⟨rfl, rfl⟩ := trodVars_none hV
  obtain ⟨a0, len0, cap0, rfl⟩ := okWide_slice Try.underlying22 (hval 0 22 v0 rfl rfl)
  have k0 := h0
  have lt0 : ∀ x ∈ p0, x.block < W.heap.size := by obtain ⟨m, hm⟩ := k0; exact DataW.trod_lt m _ _ _ hm
  obtain ⟨x0, w0⟩ : ∃ x, BytesAt W a0 len0 x ∧ len0 ≤ cap0 ∧ cap0 ≤ maxLen := open_bytes Try.underlying22 Try.underlying5 (by kernel_rfl) h0
  have k1 := h1
  have lt1 : ∀ x ∈ p1, x.block < W.heap.size := by obtain ⟨m, hm⟩ := k1; exact DataW.trod_lt m _ _ _ hm
  obtain ⟨F1, Z1, rfl, w1⟩ := open_frame (hval 1 26 v1 rfl rfl) h1
  clear hA0 hval0
  refine (walk a0 len0 cap0 x0 F1 Z1 W w0 w1).mono fun e W' ⟨he, bel⟩ => ?_
  subst he
  exact ⟨_, rfl, _, _, _, [], _, [], hW', trodAll_mk1 (shut_bool Try.underlying4 _), (trodAll_cons_mk (Below.trod laidOut (by kernel_rfl) (of_decide_eq_true (by kernel_rfl)) k0 bel lt0) (trodAll_cons_mk (Below.trod laidOut (by kernel_rfl) (of_decide_eq_true (by kernel_rfl)) k1 bel lt1) trodAll_mk0)), rfl, bel.frame _, fun h => by cases h⟩

theorem over : Rows.frameEarlierRow.holds Try.pinned (OpenSpec.ofChange Rows.frameEarlierSpec) :=
  OpenClaim.holds_of_wide 3 Try.f3 rfl rfl rfl rfl rfl rfl rfl ⟨rfl, rfl, rfl, rfl, rfl⟩ rfl rfl rfl rfl rfl (by kernel_rfl) Try.func3 (by kernel_rfl)
    (of_decide_eq_true (by kernel_rfl)) (by unfold Func.isWrapper; first | (rw [if_pos (by decide +kernel)]; kernel_rfl) | (rw [if_neg (by decide +kernel)]; exact ⟨rfl, rfl⟩))
    (fun os started H enc _ => lifted os started H enc)

theorem proved : Rows.FrameEarlierSaid := over
end Go.Proofs.Ytmbpfdnadjemcaa.frameEarlier
namespace Go.Proofs.Ytmbpfdnadjemcaa
theorem frameEarlier_holds : Rows.FrameEarlierSaid := frameEarlier.proved
#print axioms frameEarlier_holds
end Go.Proofs.Ytmbpfdnadjemcaa

/-
  Which symbol is next of which frame, in any run: the statement LedgerAll: the call returns true. (Whatever the row of deeds is.)
-/
import Derived.Test.YtjmfhkpaloipkaaRows
import Derived.WalkKit
import Derived.ProofKit
import Derived.OpenShut
import Derived.ShutString
import Derived.ChangeOld
import Derived.Below
import Derived.Carry
import Derived.Test.YtjmfhkpaloipkaaOpn
import Derived.Test.YtjmfhkpaloipkaaOpt
import Derived.Test.YtjmfhkpaloipkaaLg5
import Derived.Test.YtjmfhkpaloipkaaLg6
import Derived.Deep.RegionHeld
import Derived.Deep.RegionHeld3
import Derived.OrdersHeld
namespace Go.Proofs.Ytjmfhkpaloipkaa.ledgerAll
open Go.ChangeShapes Go.WideShapes Go.ChangeAt Go.RowKit
open Go.ChangeMaps (open_string shut_string)
set_option linter.unusedVariables false

theorem own : ownKnob Try.prog.godebug = none := by kernel_rfl
theorem laidOut : laidOutB Try.prog = true := by kernel_rfl

open Go.Deep

/-- Both Ledgers in wr: what the first holds (G1), what the second holds (G2); nothing of X is the first one's. -/
structure Bo (X : Nat → Prop) (w wr : World) (a r bk bn T : Nat) (G1 G2 : Lg.St) : Prop where
  led : LedX X wr a T G1
  ref : RLedAt wr r bk bn (2 * T) G2
  xr : X r
  xk : X bk
  xn : X bn
  inw : InW X wr
  xw : ∀ i, i < w.heap.size → X i
  hk : w.heap.size ≤ bk
  hn : w.heap.size ≤ bn
  bel : Below w.heap.size w wr
section
variable {X : Nat → Prop} {w wr w' : World} {a r bk bn T : Nat} {G1 G2 : Lg.St}
theorem Bo.one {T' : Nat} {G : Lg.St} (h : Bo X w wr a r bk bn T G1 G2) (K : KeptF (fun i => ¬ X i) wr w') (hT : T ≤ T') (l : LedX X w' a T' G) : Bo X w w' a r bk bn T' G G2 :=
  ⟨l, (h.ref.kept K (fun f => f h.xr) (fun f => f h.xk) (fun f => f h.xn)).mono (by omega), h.xr, h.xk, h.xn, h.inw.kept K, h.xw, h.hk, h.hn, h.bel.trans (K.belowX h.xw h.bel.size)⟩
theorem Bo.two {T' : Nat} {G : Lg.St} (h : Bo X w wr a r bk bn T G1 G2) (K : KeptF (RLedOwn bk bn) wr w') (hT : T ≤ T') (l : RLedAt w' r bk bn (2 * T') G) : Bo X w w' a r bk bn T' G1 G := by
  have own : ∀ i, RLedOwn bk bn i → X i := fun i e => by rcases e with rfl | rfl; exact h.xk; exact h.xn
  exact ⟨(h.led.kept K own).mono hT, l, h.xr, h.xk, h.xn, h.inw.kept K, h.xw, h.hk, h.hn, h.bel.trans ⟨K.os, K.tape, K.output, K.size, fun i hi => K.block i (Nat.lt_of_lt_of_le hi h.bel.size) fun e => by rcases e with rfl | rfl; exact absurd hi (by have := h.hk; omega); exact absurd hi (by have := h.hn; omega)⟩⟩
theorem Bo.grew (h : Bo X w wr a r bk bn T G1 G2) (b : Below wr.heap.size wr w') : Bo X w w' a r bk bn T G1 G2 := h.one (KeptF.of_below b) (Nat.le_refl _) (h.led.grew b)
theorem Bo.mono {T' : Nat} (h : Bo X w wr a r bk bn T G1 G2) (hT : T ≤ T') : Bo X w wr a r bk bn T' G1 G2 := h.one (KeptF.refl _ _) hT (h.led.mono hT)
theorem Bo.open1 {x : Nat} {k : Int} (h : Bo X w wr a r bk bn T G1 G2) (hx : x < 4) (hT : T ≤ 10000) :
    Calls Try.prog 10 #[.pointer (some ⟨a, 0, none⟩), .int .u32 (x : Int), .int .i64 k] wr fun e w' => e = .returned (.bool (Lg.okay (G1 x) k)) ∧ Bo X w w' a r bk bn (T + 1) (Lg.opened G1 x k) G2 := by
  refine (lopenX X a T x k G1 wr h.led h.inw (by omega) (by omega)).mono ?_
  rintro e w' ⟨rfl, L, K⟩
  exact ⟨rfl, h.one K (by omega) L⟩
theorem Bo.open2 {x : Nat} {k : Int} (h : Bo X w wr a r bk bn T G1 G2) (hx : x < 4) (hT : T ≤ 10000) :
    Calls Try.prog 11 #[.pointer (some ⟨r, 0, none⟩), .int .u32 (x : Int), .int .i64 k] wr fun e w' => e = .returned (.bool (Lg.okay (G2 x) k)) ∧ Bo X w w' a r bk bn (T + 1) G1 (Lg.opened G2 x k) := by
  refine (rlopen_any r bk bn (2 * T) x k G2 wr h.ref (by omega) (by omega)).mono ?_
  rintro e w' ⟨rfl, L, K⟩
  exact ⟨rfl, h.two K (by omega) (L.mono (by omega))⟩
theorem Bo.next1 {x : Nat} (h : Bo X w wr a r bk bn T G1 G2) (hx : x < 4) (hT : T ≤ 10000) :
    Calls Try.prog 14 #[.pointer (some ⟨a, 0, none⟩), .int .u32 (x : Int)] wr fun e w' => e = .returned (.tuple #[.int .i64 (Lg.ans (G1 x) : Int), .bool (Lg.yes (G1 x))]) ∧ Bo X w w' a r bk bn (T + 1) (Lg.next G1 x) G2 := by
  refine (lnextX X a T x G1 wr h.led (by omega) (by omega)).mono ?_
  rintro e w' ⟨rfl, L, K⟩
  exact ⟨rfl, h.one K (by omega) L⟩
theorem Bo.next2 {x : Nat} (h : Bo X w wr a r bk bn T G1 G2) (hx : x < 4) (hT : T ≤ 10000) :
    Calls Try.prog 15 #[.pointer (some ⟨r, 0, none⟩), .int .u32 (x : Int)] wr fun e w' => e = .returned (.tuple #[.int .i64 (Lg.ans (G2 x) : Int), .bool (Lg.yes (G2 x))]) ∧ Bo X w w' a r bk bn (T + 1) G1 (Lg.next G2 x) := by
  refine (rlnext_any r bk bn (2 * T) x G2 wr h.ref (by omega) (by omega)).mono ?_
  rintro e w' ⟨rfl, L, K⟩
  exact ⟨rfl, h.two K (by omega) (L.mono (by omega))⟩
theorem Bo.close1 {x : Nat} (h : Bo X w wr a r bk bn T G1 G2) (hx : x < 4) :
    Calls Try.prog 12 #[.pointer (some ⟨a, 0, none⟩), .int .u32 (x : Int)] wr fun e w' => e = .returned (.bool (G1 x).isSome) ∧ Bo X w w' a r bk bn T (Lg.put G1 x none) G2 := by
  refine (lcloseX X a T x G1 wr h.led (by omega)).mono ?_
  rintro e w' ⟨rfl, L, K⟩
  exact ⟨rfl, h.one K (Nat.le_refl _) L⟩
theorem Bo.close2 {x : Nat} (h : Bo X w wr a r bk bn T G1 G2) (hx : x < 4) :
    Calls Try.prog 13 #[.pointer (some ⟨r, 0, none⟩), .int .u32 (x : Int)] wr fun e w' => e = .returned (.bool (G2 x).isSome) ∧ Bo X w w' a r bk bn T G1 (Lg.put G2 x none) := by
  refine (rlclose_any r bk bn (2 * T) x G2 wr h.ref (by omega)).mono ?_
  rintro e w' ⟨rfl, L, K⟩
  exact ⟨rfl, h.two K (Nat.le_refl _) L⟩
theorem Bo.left1 {x : Nat} (h : Bo X w wr a r bk bn T G1 G2) (hx : x < 4) :
    Calls Try.prog 16 #[.pointer (some ⟨a, 0, none⟩), .int .u32 (x : Int)] wr fun e w' => e = .returned (.int .i64 (Lg.lft (G1 x) : Int)) ∧ w' = wr := lleftX X a T x G1 wr h.led (by omega)
theorem Bo.left2 {x : Nat} (h : Bo X w wr a r bk bn T G1 G2) (hx : x < 4) :
    Calls Try.prog 17 #[.pointer (some ⟨r, 0, none⟩), .int .u32 (x : Int)] wr fun e w' => e = .returned (.int .i64 (Lg.lft (G2 x) : Int)) ∧ w' = wr := rlleft_any r bk bn (2 * T) x G2 wr h.ref (by omega)
end
/-- Both are made, one behind the other. -/
theorem both_made {w w0 w1 w2 : World} {a r bk bn : Nat} (b0 : Below w.heap.size w w0) (X : Nat → Prop) (hX : X = fun i => i < w0.heap.size) (L : LedX X w1 a 0 (fun _ => none)) (K : KeptF (fun i => ¬ X i) w0 w1) (R : RLedAt w2 r bk bn 0 (fun _ => none)) (B : Below w1.heap.size w1 w2) (h1 : w1.heap.size ≤ r) (h2 : w1.heap.size ≤ bk) (h3 : w1.heap.size ≤ bn) :
    ∃ Y : Nat → Prop, Bo Y w w2 a r bk bn 0 (fun _ => none) (fun _ => none) := by
  have z1 : w0.heap.size ≤ w1.heap.size := K.size
  have z0 : w.heap.size ≤ w0.heap.size := b0.size
  obtain ⟨l1, l2, l3⟩ := R.lt
  refine ⟨fun i => X i ∨ i = r ∨ i = bk ∨ i = bn, ?_, R, .inr (.inl rfl), .inr (.inr (.inl rfl)), .inr (.inr (.inr rfl)), ?_, ?_, by omega, by omega, ?_⟩
  · obtain ⟨v, L, h2', h3'⟩ := L
    refine ⟨v, L.grew B, fun f => ?_, fun b e f => ?_⟩
    · have := L.lt
      rcases f with f | f
      · exact h2' f
      · omega
    · subst e
      have := L.map.lt
      rcases f with f | f
      · exact h3' b rfl f
      · omega
  · intro i hi
    have z2 : w1.heap.size ≤ w2.heap.size := B.size
    rcases hi with hi | hi
    · rw [hX] at hi
      have hi : i < w0.heap.size := hi
      omega
    · omega
  · intro i hi
    refine .inl ?_
    rw [hX]
    show i < w0.heap.size
    omega
  · have B1 : Below w.heap.size w0 w1 := K.belowX (fun i hi => by rw [hX]; show i < w0.heap.size; omega) z0
    exact (b0.trans B1).trans (B.mono (by omega))

set_option maxRecDepth 100000 in
set_option maxHeartbeats 8000000 in
theorem walk (x0 : Option Addr) (n c : Nat) (f : Nat → Nat → Int) (w : World) (hK : TrisAt w x0 n 3 f ∧ n ≤ c ∧ c ≤ maxLen) :
    Calls Try.prog 3 #[.slice x0 n c] w fun e w' => e = .returned (.bool true) ∧ Below w.heap.size w w' := by
  obtain ⟨hK, hc1, hc2⟩ := hK
  have hB : Hid (Calls Try.prog 7 #[] w fun e w' => e = .returned (.bool true) ∧ Below w.heap.size w w') := begun23 w
  have HK : Hid (TrisAt w x0 n 3 f) := hK
  have hn64 : (n : Int) ≤ 9223372036854775807 := by unfold maxLen at hc2; omega
  clear hK hc1 hc2
  go_enter Try.func3, Try.ntmps3
  go_wp2_with fail
  refine hB.out.mono ?_
  rintro e w0 ⟨rfl, b0⟩
  have HB0 : Hid (Below w.heap.size w w0) := b0
  clear hB b0
  by_cases h80 : 80 < n
  · have i1 : decide (80 < (n : Int)) = true := decide_eq_true (by omega)
    have i2 : decide (80 < n) = true := decide_eq_true h80
    clear HK
    go_wp2
    go_ret
    exact ⟨rfl, HB0.out⟩
  have i1 : decide (80 < (n : Int)) = false := decide_eq_false (by omega)
  have i2 : decide (80 < n) = false := decide_eq_false h80
  have hn : n ≤ 80 := by omega
  clear h80 hn64
  go_wp2_with fail
  obtain ⟨X, hX⟩ : ∃ X : Nat → Prop, X = fun i => i < w0.heap.size := ⟨_, rfl⟩
  have I0 : InW X w0 := by rw [hX]; exact fun _ h => h
  refine (lnewX X w0 I0).mono ?_
  rintro e w1 ⟨a, rfl, L0, K0⟩
  clear I0
  go_wp2_with fail
  refine (rlnew_any w1).mono ?_
  rintro e w2 ⟨r, bk, bn, rfl, R0, B0, h1, h2, h3⟩
  obtain ⟨Y, hY⟩ := both_made HB0.out X hX L0 K0 R0 B0 h1 h2 h3
  have S0 : Hid (Bo Y w w2 a r bk bn 0 (fun _ => none) (fun _ => none)) := hY
  clear hY hX L0 K0 R0 B0 h1 h2 h3 HB0
  go_wp2_with fail
  clear i1 i2
  go_loopw [5] (fun i wr => ∃ (j : Nat) (G : Lg.St), j ≤ n ∧ i = .int .i64 (j : Int) ∧ Hid (Bo Y w wr a r bk bn (40 * j) G G)) (fun i _ => n - (intOf i).toNat)
  case atStart => exact ⟨0, _, Nat.zero_le _, rfl, S0⟩
  case round =>
    obtain ⟨j, G, hj, rfl, HS⟩ := hrel
    clear S0
    by_cases h : j < n
    · have i1 : decide ((j : Int) < (n : Int)) = true := decide_eq_true (by omega)
      have i2 : decide (j < n) = true := decide_eq_true h
      obtain ⟨b, o, rfl, hc⟩ := HK.out (by omega)
      have c0 : w.cell? ⟨b, o + j * 3, none⟩ = some (.int .i64 (f j 0)) := hc j h 0 (by decide)
      have c1 : w.cell? ⟨b, o + j * 3 + 1, none⟩ = some (.int .i64 (f j 1)) := by rw [Nat.add_assoc]; exact hc j h 1 (by decide)
      have c2 : w.cell? ⟨b, o + j * 3 + 2, none⟩ = some (.int .i64 (f j 2)) := by rw [Nat.add_assoc]; exact hc j h 2 (by decide)
      obtain ⟨F, g1, g2⟩ := and_low (f j 1) 3 (by decide)
      obtain ⟨K, g3, g4⟩ := and_low (f j 0) 7 (by decide)
      obtain ⟨M, g5, g6⟩ := and_low (f j 2) 15 (by decide)
      have g1 : bits .and .i64 (f j 1) 3 = (F : Int) := g1
      have g3 : bits .and .i64 (f j 0) 7 = (K : Int) := g3
      have g5 : bits .and .i64 (f j 2) 15 = (M : Int) := g5
      have hF : F < 4 := by omega
      have g7 : IntKind.u32.wrap (F : Int) = F := by simp [IntKind.wrap, IntKind.bits, IntKind.signed]; omega
      generalize f j 0 = z0 at *
      generalize f j 1 = z1 at *
      generalize f j 2 = z2 at *
      have HC2 : Hid (w.cell? ⟨b, o + j * 3 + 2, none⟩ = some (.int .i64 z2)) := c2
      have bz : b < w.heap.size := cell_lt c0
      have d0 : wr.cell? ⟨b, o + j * 3, none⟩ = some (.int .i64 z0) := (HS.out.bel.cell (p := ⟨b, o + j * 3, none⟩) bz).trans c0
      have d1 : wr.cell? ⟨b, o + j * 3 + 1, none⟩ = some (.int .i64 z1) := (HS.out.bel.cell (p := ⟨b, o + j * 3 + 1, none⟩) bz).trans c1
      have HZ : Hid (∀ W, Below w.heap.size w W → W.cell? ⟨b, o + j * 3 + 2, none⟩ = some (.int .i64 z2)) := fun W q => (q.cell (p := ⟨b, o + j * 3 + 2, none⟩) bz).trans HC2.out
      clear hc c0 c1 c2 HC2 bz
      rcases (show K = 0 ∨ K = 1 ∨ K = 2 ∨ 3 ≤ K by omega) with hKn | hKn | hKn | hKn
      · obtain rfl : K = 0 := hKn
        go_wp2_with fail
        refine wp_region_held (S := fun W => W.cell? ⟨b, o + j * 3 + 2, none⟩ = some (.int .i64 z2)) (by kernel_rfl) ?_
        change wpAnyH _ _ _ _ _ _ _ _ wr.drew
        have HS : Hid (Bo Y w wr.drew a r bk bn (40 * j) G G) := HS.out.grew (Below.refl _ wr).drew
        clear d0 d1
        generalize wr.drew = w3 at *
        have hr := HZ.out _ HS.out.bel
        refine wpAnyH_take (i := 0) (v := .pointer (some ⟨a, 0, none⟩)) rfl (by kernel_rfl) (by kernel_rfl) (by kernel_rfl) (fun _ _ _ h => h) (Yields.yieldsIf (Or.inl ⟨by kernel_rfl, fun _ => by go_simp⟩)) hr ?_
        refine wpAnyH_take (i := 1) (v := .int .u32 (F : Int)) rfl (by kernel_rfl) (by kernel_rfl) (by kernel_rfl) (fun _ _ _ h => h) (Yields.yieldsIf (Or.inl ⟨by kernel_rfl, fun _ => by go_simp⟩)) hr ?_
        refine wpAnyH_take (i := 2) (v := .slice (some ⟨b, o, none⟩) n c) rfl (by kernel_rfl) (by kernel_rfl) (by kernel_rfl) (fun _ _ _ h => h) (Yields.yieldsIf (Or.inl ⟨by kernel_rfl, fun _ => by go_simp⟩)) hr ?_
        refine wpAnyH_take (i := 3) (v := .int .i64 (j : Int)) rfl (by kernel_rfl) (by kernel_rfl) (by kernel_rfl) (fun _ _ _ h => h) (Yields.yieldsIf (Or.inl ⟨by kernel_rfl, fun _ => by go_simp⟩)) hr ?_
        refine wpAnyH_take (i := 4) (v := .pointer (some ⟨b, o + j * 3, none⟩)) rfl (by kernel_rfl) (by kernel_rfl) (by kernel_rfl) (fun _ _ _ h => h) (Yields.yieldsIf (Or.inl ⟨by kernel_rfl, fun _ => by go_simp⟩)) hr ?_
        refine wpAnyH_take (i := 5) (v := .pointer (some ⟨b, o + j * 3 + 2, none⟩)) rfl (by kernel_rfl) (by kernel_rfl) (by kernel_rfl) (fun _ _ _ h => h) (Yields.yieldsIf (Or.inl ⟨by kernel_rfl, fun _ => by go_simp⟩)) hr ?_
        refine wpAnyH_take (i := 6) (v := .int .i64 z2) rfl (by kernel_rfl) (by kernel_rfl) (by kernel_rfl) (fun _ _ _ h => h) (Or.inl ⟨by kernel_rfl, fun W hW => by have g := hW; go_simp⟩) hr ?_
        refine wpAnyH_take (i := 8) (v := .pointer (some ⟨r, 0, none⟩)) rfl (by kernel_rfl) (by kernel_rfl) (by kernel_rfl) (fun _ _ _ h => h) (Yields.yieldsIf (Or.inl ⟨by kernel_rfl, fun _ => by go_simp⟩)) hr ?_
        refine wpAnyH_take (i := 9) (v := .int .u32 (F : Int)) rfl (by kernel_rfl) (by kernel_rfl) (by kernel_rfl) (fun _ _ _ h => h) (Yields.yieldsIf (Or.inl ⟨by kernel_rfl, fun _ => by go_simp⟩)) hr ?_
        refine wpAnyH_take (i := 10) (v := .slice (some ⟨b, o, none⟩) n c) rfl (by kernel_rfl) (by kernel_rfl) (by kernel_rfl) (fun _ _ _ h => h) (Yields.yieldsIf (Or.inl ⟨by kernel_rfl, fun _ => by go_simp⟩)) hr ?_
        refine wpAnyH_take (i := 11) (v := .int .i64 (j : Int)) rfl (by kernel_rfl) (by kernel_rfl) (by kernel_rfl) (fun _ _ _ h => h) (Yields.yieldsIf (Or.inl ⟨by kernel_rfl, fun _ => by go_simp⟩)) hr ?_
        refine wpAnyH_take (i := 12) (v := .pointer (some ⟨b, o + j * 3, none⟩)) rfl (by kernel_rfl) (by kernel_rfl) (by kernel_rfl) (fun _ _ _ h => h) (Yields.yieldsIf (Or.inl ⟨by kernel_rfl, fun _ => by go_simp⟩)) hr ?_
        refine wpAnyH_take (i := 13) (v := .pointer (some ⟨b, o + j * 3 + 2, none⟩)) rfl (by kernel_rfl) (by kernel_rfl) (by kernel_rfl) (fun _ _ _ h => h) (Yields.yieldsIf (Or.inl ⟨by kernel_rfl, fun _ => by go_simp⟩)) hr ?_
        refine wpAnyH_take (i := 14) (v := .int .i64 z2) rfl (by kernel_rfl) (by kernel_rfl) (by kernel_rfl) (fun _ _ _ h => h) (Or.inl ⟨by kernel_rfl, fun W hW => by have g := hW; go_simp⟩) hr ?_
        refine wpAnyH_ready (rs := [7]) (by kernel_rfl) (by simp) ?_
        refine AllReadyH.cons rfl (fun K2 hK2 => ?_) AllReadyH.nil
        go_simp
        refine (HS.out.open1 hF (by omega)).mono ?_
        rintro e w4 ⟨rfl, s4⟩
        have S4 : Hid (Bo Y w w4 a r bk bn (40 * j + 1) (Lg.opened G F z2) G) := s4
        clear s4 HS
        refine hK2.out _ _ (HZ.out _ S4.out.bel) (fun hr => ?_)
        clear hK2 K2
        refine wpAnyH_ready (rs := [15]) (by kernel_rfl) (by simp) ?_
        refine AllReadyH.cons rfl (fun K2 hK2 => ?_) AllReadyH.nil
        go_simp
        refine (S4.out.open2 hF (by omega)).mono ?_
        rintro e w5 ⟨rfl, s5⟩
        have S3 : Hid (Bo Y w w5 a r bk bn (40 * (j + 1)) (Lg.opened G F z2) (Lg.opened G F z2)) := s5.mono (by omega)
        clear s5 S4
        refine hK2.out _ _ (HZ.out _ S3.out.bel) (fun hr => ?_)
        clear hK2 K2
        refine wpAnyH_take (i := 16) (v := .bool false) rfl (by kernel_rfl) (by kernel_rfl) (by kernel_rfl) (fun _ _ _ h => h) (Yields.yieldsIf (Or.inl ⟨by kernel_rfl, fun _ => by go_simp⟩)) hr ?_
        refine wpAnyH_done (by kernel_rfl) ?_ _
        clear hr
        generalize Lg.opened G F z2 = G3 at *
        go_wp2_with fail
        refine (S3.out.left1 hF).mono ?_
        rintro e w7 ⟨rfl, hw7⟩
        subst hw7
        go_wp2_with fail
        refine (S3.out.left2 hF).mono ?_
        rintro e w8 ⟨rfl, hw8⟩
        subst hw8
        clear HZ
        go_wp2
        go_roundw
        case rel => exact ⟨j + 1, G3, by omega, by go_num, S3⟩
        case measure => simp [intOf]; omega
      · obtain rfl : K = 1 := hKn
        go_wp2_with fail
        refine wp_region_held (S := fun W => W.cell? ⟨b, o + j * 3 + 2, none⟩ = some (.int .i64 z2)) (by kernel_rfl) ?_
        change wpAnyH _ _ _ _ _ _ _ _ wr.drew
        have HS : Hid (Bo Y w wr.drew a r bk bn (40 * j) G G) := HS.out.grew (Below.refl _ wr).drew
        clear d0 d1
        generalize wr.drew = w3 at *
        have hr := HZ.out _ HS.out.bel
        refine wpAnyH_take (i := 0) (v := .pointer (some ⟨a, 0, none⟩)) rfl (by kernel_rfl) (by kernel_rfl) (by kernel_rfl) (fun _ _ _ h => h) (Yields.yieldsIf (Or.inl ⟨by kernel_rfl, fun _ => by go_simp⟩)) hr ?_
        refine wpAnyH_take (i := 1) (v := .int .u32 (F : Int)) rfl (by kernel_rfl) (by kernel_rfl) (by kernel_rfl) (fun _ _ _ h => h) (Yields.yieldsIf (Or.inl ⟨by kernel_rfl, fun _ => by go_simp⟩)) hr ?_
        refine wpAnyH_take (i := 2) (v := .slice (some ⟨b, o, none⟩) n c) rfl (by kernel_rfl) (by kernel_rfl) (by kernel_rfl) (fun _ _ _ h => h) (Yields.yieldsIf (Or.inl ⟨by kernel_rfl, fun _ => by go_simp⟩)) hr ?_
        refine wpAnyH_take (i := 3) (v := .int .i64 (j : Int)) rfl (by kernel_rfl) (by kernel_rfl) (by kernel_rfl) (fun _ _ _ h => h) (Yields.yieldsIf (Or.inl ⟨by kernel_rfl, fun _ => by go_simp⟩)) hr ?_
        refine wpAnyH_take (i := 4) (v := .pointer (some ⟨b, o + j * 3, none⟩)) rfl (by kernel_rfl) (by kernel_rfl) (by kernel_rfl) (fun _ _ _ h => h) (Yields.yieldsIf (Or.inl ⟨by kernel_rfl, fun _ => by go_simp⟩)) hr ?_
        refine wpAnyH_take (i := 5) (v := .pointer (some ⟨b, o + j * 3 + 2, none⟩)) rfl (by kernel_rfl) (by kernel_rfl) (by kernel_rfl) (fun _ _ _ h => h) (Yields.yieldsIf (Or.inl ⟨by kernel_rfl, fun _ => by go_simp⟩)) hr ?_
        refine wpAnyH_take (i := 6) (v := .int .i64 z2) rfl (by kernel_rfl) (by kernel_rfl) (by kernel_rfl) (fun _ _ _ h => h) (Or.inl ⟨by kernel_rfl, fun W hW => by have g := hW; go_simp⟩) hr ?_
        refine wpAnyH_take (i := 8) (v := .pointer (some ⟨r, 0, none⟩)) rfl (by kernel_rfl) (by kernel_rfl) (by kernel_rfl) (fun _ _ _ h => h) (Yields.yieldsIf (Or.inl ⟨by kernel_rfl, fun _ => by go_simp⟩)) hr ?_
        refine wpAnyH_take (i := 9) (v := .int .u32 (F : Int)) rfl (by kernel_rfl) (by kernel_rfl) (by kernel_rfl) (fun _ _ _ h => h) (Yields.yieldsIf (Or.inl ⟨by kernel_rfl, fun _ => by go_simp⟩)) hr ?_
        refine wpAnyH_take (i := 10) (v := .slice (some ⟨b, o, none⟩) n c) rfl (by kernel_rfl) (by kernel_rfl) (by kernel_rfl) (fun _ _ _ h => h) (Yields.yieldsIf (Or.inl ⟨by kernel_rfl, fun _ => by go_simp⟩)) hr ?_
        refine wpAnyH_take (i := 11) (v := .int .i64 (j : Int)) rfl (by kernel_rfl) (by kernel_rfl) (by kernel_rfl) (fun _ _ _ h => h) (Yields.yieldsIf (Or.inl ⟨by kernel_rfl, fun _ => by go_simp⟩)) hr ?_
        refine wpAnyH_take (i := 12) (v := .pointer (some ⟨b, o + j * 3, none⟩)) rfl (by kernel_rfl) (by kernel_rfl) (by kernel_rfl) (fun _ _ _ h => h) (Yields.yieldsIf (Or.inl ⟨by kernel_rfl, fun _ => by go_simp⟩)) hr ?_
        refine wpAnyH_take (i := 13) (v := .pointer (some ⟨b, o + j * 3 + 2, none⟩)) rfl (by kernel_rfl) (by kernel_rfl) (by kernel_rfl) (fun _ _ _ h => h) (Yields.yieldsIf (Or.inl ⟨by kernel_rfl, fun _ => by go_simp⟩)) hr ?_
        refine wpAnyH_take (i := 14) (v := .int .i64 z2) rfl (by kernel_rfl) (by kernel_rfl) (by kernel_rfl) (fun _ _ _ h => h) (Or.inl ⟨by kernel_rfl, fun W hW => by have g := hW; go_simp⟩) hr ?_
        refine wpAnyH_ready (rs := [7]) (by kernel_rfl) (by simp) ?_
        refine AllReadyH.cons rfl (fun K2 hK2 => ?_) AllReadyH.nil
        go_simp
        refine (HS.out.open1 hF (by omega)).mono ?_
        rintro e w4 ⟨rfl, s4⟩
        have S4 : Hid (Bo Y w w4 a r bk bn (40 * j + 1) (Lg.opened G F z2) G) := s4
        clear s4 HS
        refine hK2.out _ _ (HZ.out _ S4.out.bel) (fun hr => ?_)
        clear hK2 K2
        refine wpAnyH_ready (rs := [15]) (by kernel_rfl) (by simp) ?_
        refine AllReadyH.cons rfl (fun K2 hK2 => ?_) AllReadyH.nil
        go_simp
        refine (S4.out.open2 hF (by omega)).mono ?_
        rintro e w5 ⟨rfl, s5⟩
        have S3 : Hid (Bo Y w w5 a r bk bn (40 * (j + 1)) (Lg.opened G F z2) (Lg.opened G F z2)) := s5.mono (by omega)
        clear s5 S4
        refine hK2.out _ _ (HZ.out _ S3.out.bel) (fun hr => ?_)
        clear hK2 K2
        refine wpAnyH_take (i := 16) (v := .bool false) rfl (by kernel_rfl) (by kernel_rfl) (by kernel_rfl) (fun _ _ _ h => h) (Yields.yieldsIf (Or.inl ⟨by kernel_rfl, fun _ => by go_simp⟩)) hr ?_
        refine wpAnyH_done (by kernel_rfl) ?_ _
        clear hr
        generalize Lg.opened G F z2 = G3 at *
        go_wp2_with fail
        refine (S3.out.left1 hF).mono ?_
        rintro e w7 ⟨rfl, hw7⟩
        subst hw7
        go_wp2_with fail
        refine (S3.out.left2 hF).mono ?_
        rintro e w8 ⟨rfl, hw8⟩
        subst hw8
        clear HZ
        go_wp2
        go_roundw
        case rel => exact ⟨j + 1, G3, by omega, by go_num, S3⟩
        case measure => simp [intOf]; omega
      · obtain rfl : K = 2 := hKn
        go_wp2_with fail
        refine (HS.out.close1 hF).mono ?_
        rintro e w4 ⟨rfl, s4⟩
        have S4 : Hid (Bo Y w w4 a r bk bn (40 * j) (Lg.put G F none) G) := s4
        clear s4 HS d0 d1
        go_wp2_with fail
        refine (S4.out.close2 hF).mono ?_
        rintro e w5 ⟨rfl, s5⟩
        have S3 : Hid (Bo Y w w5 a r bk bn (40 * (j + 1)) (Lg.put G F none) (Lg.put G F none)) := s5.mono (by omega)
        clear s5 S4
        generalize Lg.put G F none = G3 at *
        go_wp2_with fail
        refine (S3.out.left1 hF).mono ?_
        rintro e w7 ⟨rfl, hw7⟩
        subst hw7
        go_wp2_with fail
        refine (S3.out.left2 hF).mono ?_
        rintro e w8 ⟨rfl, hw8⟩
        subst hw8
        clear HZ
        go_wp2
        go_roundw
        case rel => exact ⟨j + 1, G3, by omega, by go_num, S3⟩
        case measure => simp [intOf]; omega
      · have t0 : ((K : Int) == 0) = false := by simp; omega
        have t1 : ((K : Int) == 1) = false := by simp; omega
        have t2 : ((K : Int) == 2) = false := by simp; omega
        have m1 : 1 + (M : Int) = ((M + 1 : Nat) : Int) := by omega
        obtain ⟨N, eN⟩ : ∃ N, M + 1 = N := ⟨_, rfl⟩
        rw [eN] at m1
        have m2 : IntKind.i64.wrap (N : Int) = N := by simp [IntKind.wrap, IntKind.bits, IntKind.signed]; omega
        have hN : N ≤ 16 := by omega
        go_wp2_with fail
        clear d0 d1
        generalize wr = wo at *
        go_loopw [7] (fun kv wr => ∃ (k : Nat) (G3 : Lg.St), k ≤ N ∧ kv = .int .i64 (k : Int) ∧ Hid (Bo Y w wr a r bk bn (40 * j + 2 * k) G3 G3)) (fun kv _ => N - (intOf kv).toNat)
        case atStart => exact ⟨0, G, Nat.zero_le _, rfl, HS⟩
        case round =>
          clear HS
          obtain ⟨k, G3, hk, rfl, HS⟩ := hrel
          have dz := HZ.out _ HS.out.bel
          by_cases hkN : k < N
          · have k1 : decide ((k : Int) < (N : Int)) = true := decide_eq_true (by omega)
            have k2 : decide (k < N) = true := decide_eq_true hkN
            go_wp2_with fail
            refine (HS.out.next1 hF (by omega)).mono ?_
            rintro e w4 ⟨rfl, s4⟩
            have S4 : Hid (Bo Y w w4 a r bk bn (40 * j + 2 * k + 1) (Lg.next G3 F) G3) := s4
            clear s4 HS dz
            go_wp2_with fail
            refine (S4.out.next2 hF (by omega)).mono ?_
            rintro e w5 ⟨rfl, s5⟩
            have S5 : Hid (Bo Y w w5 a r bk bn (40 * j + 2 * (k + 1)) (Lg.next G3 F) (Lg.next G3 F)) := s5.mono (by omega)
            clear s5 S4
            go_wp2
            go_roundw
            case rel => exact ⟨k + 1, _, by omega, by go_num, S5⟩
            case measure => simp [intOf]; omega
          · obtain rfl : k = N := by omega
            have k1 : decide ((k : Int) < (k : Int)) = false := decide_eq_false (by omega)
            have S3 : Hid (Bo Y w wr a r bk bn (40 * (j + 1)) G3 G3) := HS.out.mono (by omega)
            clear HS
            go_wp2_with fail
            refine (S3.out.left1 hF).mono ?_
            rintro e w7 ⟨rfl, hw7⟩
            subst hw7
            go_wp2_with fail
            refine (S3.out.left2 hF).mono ?_
            rintro e w8 ⟨rfl, hw8⟩
            subst hw8
            clear HZ
            go_wp2
            go_roundw
            case rel => exact ⟨j + 1, G3, by omega, by go_num, S3⟩
            case measure => simp [intOf]; omega
    · obtain rfl : j = n := by omega
      have i1 : decide ((j : Int) < (j : Int)) = false := decide_eq_false (by omega)
      clear HK
      go_wp2_with fail
      refine (lnext_nil 1 (by decide) wr).mono ?_
      rintro e w3 ⟨rfl, b3⟩
      have B3 := HS.out.bel.trans (b3.mono HS.out.bel.size)
      go_wp2_with fail
      refine (lopen_nil 1 3 (by decide) w3).mono ?_
      rintro e w4 ⟨rfl, b4⟩
      have B4 := B3.trans (b4.mono B3.size)
      clear b3
      go_wp2_with fail
      refine (lleft_nil 1 (by decide) w4).mono ?_
      rintro e w5 ⟨rfl, rfl⟩
      go_wp2_with fail
      refine (lclose_nil 1 (by decide) w5).mono ?_
      rintro e w6 ⟨rfl, b6⟩
      have B6 : Hid (Below w.heap.size w w6) := B4.trans (b6.mono B4.size)
      clear b4 b6 B3 B4
      go_wp2
      go_ret
      exact ⟨rfl, B6.out⟩

set_option maxRecDepth 100000 in
theorem lifted (os : Os) (started : os.Started) (H : Type) (enc : TypeId × Value → H) :
    ReturnsInHanded {} Try.checked os 3 .any (Rows.ledgerAllSpec.pre6 enc Try.prog Try.f3 Rows.ledgerAllRow.domain false) (Rows.ledgerAllSpec.post enc Try.prog Try.f3 false true false false) := by
  refine returnsInHanded_of_change (C := Try.checked) own started (by kernel_rfl) Try.func3
    (ChangeSpec.witness6 (enc := enc) (C := Try.checked) false ⟨#[], #[.slice none 0 0], []⟩ 8 (by kernel_rfl) (by kernel_rfl) (by kernel_rfl) (by kernel_rfl)) ?_
  intro W base args ds gs before hval0 hW hcnd _
  have hval : ∀ (j : Nat) t v, Try.f3.params[j]? = some t → args[j]? = some v → Value.okWide Try.prog W .any base t v := hval0
  have hW' := hW
  obtain ⟨p, q, hA0, hV, rfl, hfz, hnd⟩ := hW
  have hA : DataW.TrodAll enc Try.prog W 0 (fun _ => true) true Try.f3.params.toList args.toList ds p := hA0
  rw [Try.params3] at hA hval
  obtain ⟨v0, vs0, d0, ds0, p0, q0, hargs, rfl, rfl, h0, r0⟩ := trodAll_cons hA
  obtain ⟨rfl, rfl, rfl⟩ := trodAll_nil r0
  obtain rfl : args = #[v0] := by cases args; simp_all
  obtain ⟨rfl, rfl⟩ := trodVars_none hV
  obtain ⟨a0, len0, cap0, rfl⟩ := okWide_slice Try.underlying22 (hval 0 22 v0 rfl rfl)
  have k0 := h0
  have lt0 : ∀ x ∈ p0, x.block < W.heap.size := by obtain ⟨m, hm⟩ := k0; exact DataW.trod_lt m _ _ _ hm
  obtain ⟨x0, w0⟩ := open_tris Try.underlying22 Try.underlying29 Try.underlying3 (by kernel_rfl) (by kernel_rfl) (by decide) h0
  clear hA0 hval0
  refine (walk a0 len0 cap0 x0 W w0).mono fun e W' ⟨he, bel⟩ => ?_
  subst he
  exact ⟨_, rfl, _, _, _, [], _, [], hW', trodAll_mk1 (shut_bool Try.underlying4 _), (trodAll_cons_mk (Below.trod laidOut (by kernel_rfl) (of_decide_eq_true (by kernel_rfl)) k0 bel lt0) trodAll_mk0), rfl, bel.frame _, fun h => by cases h⟩

theorem over : Rows.ledgerAllRow.holds Try.pinned (OpenSpec.ofChange Rows.ledgerAllSpec) :=
  OpenClaim.holds_of_wide 3 Try.f3 rfl rfl rfl rfl rfl rfl rfl ⟨rfl, rfl, rfl, rfl, rfl⟩ rfl rfl rfl rfl rfl (by kernel_rfl) Try.func3 (by kernel_rfl)
    (of_decide_eq_true (by kernel_rfl)) (by unfold Func.isWrapper; first | (rw [if_pos (by decide +kernel)]; kernel_rfl) | (rw [if_neg (by decide +kernel)]; exact ⟨rfl, rfl⟩))
    (fun os started H enc _ => lifted os started H enc)

theorem proved : Rows.LedgerAllSaid := over
end Go.Proofs.Ytjmfhkpaloipkaa.ledgerAll
namespace Go.Proofs.Ytjmfhkpaloipkaa
theorem ledgerAll_holds : Rows.LedgerAllSaid := ledgerAll.proved
#print axioms ledgerAll_holds
end Go.Proofs.Ytjmfhkpaloipkaa

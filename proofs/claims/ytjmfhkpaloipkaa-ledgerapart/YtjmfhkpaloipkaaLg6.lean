/-
  A Ledger that keeps off what is not its own; law 23's 'begun'.
-/
import Derived.Test.YtjmfhkpaloipkaaLg3
namespace Go.Proofs.Ytjmfhkpaloipkaa
open Go.RowKit Go.Deep Go.Maps

/-- Block a is a Ledger, and nothing of X is its own. -/
def LedX (X : Nat → Prop) (w : World) (a t : Nat) (G : Lg.St) : Prop := ∃ v, LedAt w a v t G ∧ ¬ X a ∧ ∀ b, v = some b → ¬ X b
/-- All of X lies in w. -/
def InW (X : Nat → Prop) (w : World) : Prop := ∀ i, X i → i < w.heap.size
theorem InW.kept {X F : Nat → Prop} {w w' : World} (h : InW X w) (k : KeptF F w w') : InW X w' := fun i hi => Nat.lt_of_lt_of_le (h i hi) k.size
theorem LedX.kept {X F : Nat → Prop} {w w' : World} {a t : Nat} {G : Lg.St} (h : LedX X w a t G) (k : KeptF F w w') (hF : ∀ i, F i → X i) : LedX X w' a t G := by
  obtain ⟨v, h1, h2, h3⟩ := h
  exact ⟨v, h1.kept k (fun e => h2 (hF a e)) (fun b e q => h3 b e (hF b q)), h2, h3⟩
theorem LedX.grew {X : Nat → Prop} {w w' : World} {a t : Nat} {G : Lg.St} (h : LedX X w a t G) (k : Below w.heap.size w w') : LedX X w' a t G :=
  h.kept (F := fun _ => False) (KeptF.of_below k) fun _ => False.elim
theorem LedX.mono {X : Nat → Prop} {w : World} {a t t' : Nat} {G : Lg.St} (h : LedX X w a t G) (ht : t ≤ t') : LedX X w a t' G := by
  obtain ⟨v, h1, h2⟩ := h
  exact ⟨v, h1.mono ht, h2⟩
theorem own_off {X : Nat → Prop} {a : Nat} {v : Option Nat} (h2 : ¬ X a) (h3 : ∀ b, v = some b → ¬ X b) (i : Nat) (h : LedOwn a v i) : ¬ X i := by
  rcases h with rfl | h
  · exact h2
  · exact h3 i h
theorem KeptF.mono {F H : Nat → Prop} {w w' : World} (h : KeptF F w w') (hF : ∀ i, F i → H i) : KeptF H w w' := ⟨h.os, h.tape, h.output, h.size, fun k hk hn => h.block k hk fun q => hn (hF k q)⟩
/-- What keeps all of X keeps all below B, where X has it. -/
theorem KeptF.belowX {X : Nat → Prop} {w w' : World} {B : Nat} (h : KeptF (fun i => ¬ X i) w w') (hX : ∀ i, i < B → X i) (hB : B ≤ w.heap.size) : Below B w w' :=
  ⟨h.os, h.tape, h.output, h.size, fun k hk => h.block k (by omega) fun q => q (hX k hk)⟩
theorem lnewX (X : Nat → Prop) (w : World) (hX : InW X w) :
    Calls Try.prog 8 #[] w fun e w' => ∃ a, e = .returned (.pointer (some ⟨a, 0, none⟩)) ∧ LedX X w' a 0 (fun _ => none) ∧ KeptF (fun i => ¬ X i) w w' := by
  refine (lnew_any w).mono ?_
  rintro e w' ⟨rfl, L, b, -⟩
  exact ⟨w.heap.size, rfl, ⟨none, L, fun h => by have := hX _ h; omega, fun _ e => by cases e⟩, KeptF.of_below b⟩
theorem lopenX (X : Nat → Prop) (a t x : Nat) (k : Int) (G : Lg.St) (w : World) (h : LedX X w a t G) (hX : InW X w) (hx : x < 4294967296) (ht : t ≤ 1000000) :
    Calls Try.prog 10 #[.pointer (some ⟨a, 0, none⟩), .int .u32 (x : Int), .int .i64 k] w fun e w' => e = .returned (.bool (Lg.okay (G x) k)) ∧ LedX X w' a (t + 1) (Lg.opened G x k) ∧ KeptF (fun i => ¬ X i) w w' := by
  obtain ⟨v, h1, h2, h3⟩ := h
  refine (lopen_any a t x k v G w h1 hx ht).mono ?_
  rintro e w' ⟨rfl, v', to, L, K⟩
  refine ⟨rfl, ⟨v', L, h2, fun b e => ?_⟩, K.mono (own_off h2 h3)⟩
  rcases to with rfl | ⟨c, rfl, hc⟩
  · exact h3 b e
  · cases e
    exact fun q => by have := hX _ q; omega
theorem lnextX (X : Nat → Prop) (a t x : Nat) (G : Lg.St) (w : World) (h : LedX X w a t G) (hx : x < 4294967296) (ht : t ≤ 1000000) :
    Calls Try.prog 14 #[.pointer (some ⟨a, 0, none⟩), .int .u32 (x : Int)] w fun e w' => e = .returned (.tuple #[.int .i64 (Lg.ans (G x) : Int), .bool (Lg.yes (G x))]) ∧ LedX X w' a (t + 1) (Lg.next G x) ∧ KeptF (fun i => ¬ X i) w w' := by
  obtain ⟨v, h1, h2, h3⟩ := h
  refine (lnext_any a t x v G w h1 hx ht).mono ?_
  rintro e w' ⟨rfl, L, K⟩
  exact ⟨rfl, ⟨v, L, h2, h3⟩, K.mono (own_off h2 h3)⟩
theorem lcloseX (X : Nat → Prop) (a t x : Nat) (G : Lg.St) (w : World) (h : LedX X w a t G) (hx : x < 4294967296) :
    Calls Try.prog 12 #[.pointer (some ⟨a, 0, none⟩), .int .u32 (x : Int)] w fun e w' => e = .returned (.bool (G x).isSome) ∧ LedX X w' a t (Lg.put G x none) ∧ KeptF (fun i => ¬ X i) w w' := by
  obtain ⟨v, h1, h2, h3⟩ := h
  refine (lclose_any a t x v G w h1 hx).mono ?_
  rintro e w' ⟨rfl, L, K⟩
  exact ⟨rfl, ⟨v, L, h2, h3⟩, K.mono (own_off h2 h3)⟩
theorem lleftX (X : Nat → Prop) (a t x : Nat) (G : Lg.St) (w : World) (h : LedX X w a t G) (hx : x < 4294967296) :
    Calls Try.prog 16 #[.pointer (some ⟨a, 0, none⟩), .int .u32 (x : Int)] w fun e w' => e = .returned (.int .i64 (Lg.lft (G x) : Int)) ∧ w' = w := by
  obtain ⟨v, h1, -⟩ := h
  exact lleft_any a t x v G w h1 hx

theorem Lg.ev_next {G : Lg.St} {x k n : Nat} (h : G x = some (k, n)) (hn : n < 64) : Lg.next G x = Lg.put G x (some (k, n + 1)) := by
  unfold Lg.next
  have h0 : ¬ lft (some (k, n)) = 0 := show ¬ 64 - n = 0 by omega
  rw [h, if_neg h0]
  rfl
theorem Lg.ev_stay {G : Lg.St} {x : Nat} (h : Lg.lft (G x) = 0) : Lg.next G x = G := by unfold Lg.next; rw [if_pos h]
theorem Lg.ev_open {G : Lg.St} {x : Nat} {k : Int} (n : Nat) (h : G x = none) (hk : k = n) (h1 : 1 ≤ n) (h2 : n ≤ 32) : Lg.opened G x k = Lg.put G x (some (n, 0)) := by
  have : Lg.okay (G x) k = true := by rw [h]; simp [Lg.okay]; omega
  unfold Lg.opened
  rw [if_pos this, hk]
  rfl
theorem Lg.ev_shut {G : Lg.St} {x : Nat} {k : Int} (h : Lg.okay (G x) k = false) : Lg.opened G x k = G := by
  unfold Lg.opened
  rw [h]
  rfl

theorem lnextX_at (X : Nat → Prop) (a t x k n : Nat) (G : Lg.St) (w : World) (h : LedX X w a t G) (hx : x < 4294967296) (ht : t ≤ 1000000) (g : G x = some (k, n)) (hn : n < 64) :
    Calls Try.prog 14 #[.pointer (some ⟨a, 0, none⟩), .int .u32 (x : Int)] w fun e w' => e = .returned (.tuple #[.int .i64 ((k + n : Nat) : Int), .bool true]) ∧ LedX X w' a (t + 1) (Lg.put G x (some (k, n + 1))) ∧ KeptF (fun i => ¬ X i) w w' := by
  have h0 : ¬ Lg.lft (some (k, n)) = 0 := show ¬ 64 - n = 0 by omega
  have e1 : Lg.ans (G x) = k + n := by rw [g]; unfold Lg.ans; rw [if_neg h0]; rfl
  have e2 : Lg.yes (G x) = true := by rw [g]; exact decide_eq_true (by omega)
  have := lnextX X a t x G w h hx ht
  rw [e1, e2, Lg.ev_next g hn] at this
  exact this
theorem lopenX_at (X : Nat → Prop) (a t x k : Nat) (G : Lg.St) (w : World) (h : LedX X w a t G) (hX : InW X w) (hx : x < 4294967296) (ht : t ≤ 1000000) (g : G x = none) (h1 : 1 ≤ k) (h2 : k ≤ 32) :
    Calls Try.prog 10 #[.pointer (some ⟨a, 0, none⟩), .int .u32 (x : Int), .int .i64 (k : Int)] w fun e w' => e = .returned (.bool true) ∧ LedX X w' a (t + 1) (Lg.put G x (some (k, 0))) ∧ KeptF (fun i => ¬ X i) w w' := by
  have e1 : Lg.okay (G x) (k : Int) = true := by rw [g]; simp [Lg.okay]; omega
  have := lopenX X a t x (k : Int) G w h hX hx ht
  rw [e1, Lg.ev_open k g rfl h1 h2] at this
  exact this
theorem lleftX_at (X : Nat → Prop) (a t x k n : Nat) (G : Lg.St) (w : World) (h : LedX X w a t G) (hx : x < 4294967296) (g : G x = some (k, n)) :
    Calls Try.prog 16 #[.pointer (some ⟨a, 0, none⟩), .int .u32 (x : Int)] w fun e w' => e = .returned (.int .i64 ((64 - n : Nat) : Int)) ∧ w' = w := by
  have := lleftX X a t x G w h hx
  rw [g] at this
  exact this
theorem lnextX_end (X : Nat → Prop) (a t x k : Nat) (G : Lg.St) (w : World) (h : LedX X w a t G) (hx : x < 4294967296) (ht : t ≤ 1000000) (g : G x = some (k, 64)) :
    Calls Try.prog 14 #[.pointer (some ⟨a, 0, none⟩), .int .u32 (x : Int)] w fun e w' => e = .returned (.tuple #[.int .i64 0, .bool false]) ∧ LedX X w' a (t + 1) G ∧ KeptF (fun i => ¬ X i) w w' := by
  have := lnextX X a t x G w h hx ht
  rw [Lg.ev_stay (by rw [g]; rfl)] at this
  rw [g] at this
  exact this
theorem Lg.next_other (G : Lg.St) {x y : Nat} (h : y ≠ x) : Lg.next G x y = G y := by
  unfold Lg.next
  split
  · rfl
  · exact Lg.put_other _ _ h

set_option maxRecDepth 100000 in
set_option maxHeartbeats 4000000 in
theorem begun23 (w : World) :
    Calls Try.prog 7 #[] w fun e w' => e = .returned (.bool true) ∧ Below w.heap.size w w' := by
  obtain ⟨X, hX⟩ : ∃ X : Nat → Prop, X = fun i => i < w.heap.size := ⟨_, rfl⟩
  have I0 : InW X w := by rw [hX]; exact fun _ h => h
  have HX : Hid (∀ w', KeptF (fun i => ¬ X i) w w' → Below w.heap.size w w') := fun w' K => K.belowX (fun i hi => by rw [hX]; exact hi) (Nat.le_refl _)
  clear hX
  go_enter Try.func7, Try.ntmps7
  go_wp2_with fail
  refine (lnewX X w I0).mono ?_
  rintro e w1 ⟨a, rfl, L0, K0⟩
  have g0_1 : (fun _ => none : Lg.St) 1 = none := rfl
  have g0_2 : (fun _ => none : Lg.St) 2 = none := rfl
  generalize (fun _ => none : Lg.St) = G0 at *
  go_wp2_with fail
  refine (lopenX X a 0 1 3 G0 w1 L0 (I0.kept K0) (by decide) (by decide)).mono ?_
  rintro e w2 ⟨e1, L1, k1⟩
  rw [g0_1] at e1
  obtain rfl : e = .returned (.bool true) := e1
  have K1 := K0.trans k1
  clear k1
  rw [Lg.ev_open (k := 3) 3 g0_1 rfl (by decide) (by decide)] at L1
  have g1_1 : Lg.put G0 1 (some (3, 0)) 1 = some (3, 0) := Lg.put_same _ _ _
  have g1_2 : Lg.put G0 1 (some (3, 0)) 2 = none := (Lg.put_other _ _ (by decide)).trans g0_2
  generalize Lg.put G0 1 (some (3, 0)) = G1 at *
  clear L0 K0 g0_1 g0_2
  go_wp2_with fail
  refine (lnextX X a 1 1 G1 w2 L1 (by decide) (by decide)).mono ?_
  rintro e w3 ⟨e2, L2, k2⟩
  rw [g1_1] at e2
  obtain rfl : e = .returned (.tuple #[.int .i64 3, .bool true]) := e2
  have K2 := K1.trans k2
  clear k2
  rw [Lg.ev_next g1_1 (by decide)] at L2
  have g2_1 : Lg.put G1 1 (some (3, 1)) 1 = some (3, 1) := Lg.put_same _ _ _
  have g2_2 : Lg.put G1 1 (some (3, 1)) 2 = none := (Lg.put_other _ _ (by decide)).trans g1_2
  generalize Lg.put G1 1 (some (3, 1)) = G2 at *
  clear L1 K1 g1_1 g1_2
  go_wp2_with fail
  refine (lnextX X a 2 1 G2 w3 L2 (by decide) (by decide)).mono ?_
  rintro e w4 ⟨e3, L3, k3⟩
  rw [g2_1] at e3
  obtain rfl : e = .returned (.tuple #[.int .i64 4, .bool true]) := e3
  have K3 := K2.trans k3
  clear k3
  rw [Lg.ev_next g2_1 (by decide)] at L3
  have g3_1 : Lg.put G2 1 (some (3, 2)) 1 = some (3, 2) := Lg.put_same _ _ _
  have g3_2 : Lg.put G2 1 (some (3, 2)) 2 = none := (Lg.put_other _ _ (by decide)).trans g2_2
  generalize Lg.put G2 1 (some (3, 2)) = G3 at *
  clear L2 K2 g2_1 g2_2
  go_wp2_with fail
  refine (lnextX X a 3 2 G3 w4 L3 (by decide) (by decide)).mono ?_
  rintro e w5 ⟨e4, L4, k4⟩
  rw [g3_2] at e4
  obtain rfl : e = .returned (.tuple #[.int .i64 0, .bool false]) := e4
  have K4 := K3.trans k4
  clear k4
  rw [Lg.ev_stay (G := G3) (x := 2) (by rw [g3_2]; rfl)] at L4
  have g4_1 := g3_1
  have g4_2 := g3_2
  obtain ⟨G4, eG4⟩ : ∃ G, G = G3 := ⟨_, rfl⟩
  rw [← eG4] at L4 g4_1 g4_2
  clear eG4
  clear L3 K3 g3_1 g3_2
  go_wp2_with fail
  refine (lleftX X a 4 1 G4 w5 L4 (by decide)).mono ?_
  rintro e w6 ⟨q5, r5⟩
  rw [g4_1] at q5
  obtain rfl : e = .returned (.int .i64 62) := q5
  obtain rfl := r5
  go_wp2_with fail
  refine (lopenX X a 4 1 3 G4 w6 L4 (I0.kept K4) (by decide) (by decide)).mono ?_
  rintro e w7 ⟨e5, L5, k5⟩
  rw [g4_1] at e5
  obtain rfl : e = .returned (.bool false) := e5
  have K5 := K4.trans k5
  clear k5
  rw [Lg.ev_shut (G := G4) (x := 1) (k := 3) (by rw [g4_1]; rfl)] at L5
  have g5_1 := g4_1
  have g5_2 := g4_2
  obtain ⟨G5, eG5⟩ : ∃ G, G = G4 := ⟨_, rfl⟩
  rw [← eG5] at L5 g5_1 g5_2
  clear eG5
  clear L4 K4 g4_1 g4_2
  go_wp2_with fail
  refine (lcloseX X a 5 1 G5 w7 L5 (by decide)).mono ?_
  rintro e w8 ⟨e6, L6, k6⟩
  rw [g5_1] at e6
  obtain rfl : e = .returned (.bool true) := e6
  have K6 := K5.trans k6
  clear k6
  rw [show Lg.put G5 1 none = Lg.put G5 1 none from rfl] at L6
  have g6_1 : Lg.put G5 1 (none) 1 = none := Lg.put_same _ _ _
  have g6_2 : Lg.put G5 1 (none) 2 = none := (Lg.put_other _ _ (by decide)).trans g5_2
  generalize Lg.put G5 1 (none) = G6 at *
  clear L5 K5 g5_1 g5_2
  go_wp2_with fail
  refine (lcloseX X a 5 1 G6 w8 L6 (by decide)).mono ?_
  rintro e w9 ⟨e7, L7, k7⟩
  rw [g6_1] at e7
  obtain rfl : e = .returned (.bool false) := e7
  have K7 := K6.trans k7
  clear k7
  rw [show Lg.put G6 1 none = Lg.put G6 1 none from rfl] at L7
  have g7_1 : Lg.put G6 1 (none) 1 = none := Lg.put_same _ _ _
  have g7_2 : Lg.put G6 1 (none) 2 = none := (Lg.put_other _ _ (by decide)).trans g6_2
  generalize Lg.put G6 1 (none) = G7 at *
  clear L6 K6 g6_1 g6_2
  go_wp2
  go_ret
  exact ⟨rfl, HX.out _ K7⟩
end Go.Proofs.Ytjmfhkpaloipkaa

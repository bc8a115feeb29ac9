/-
  One frame's symbols do not hang on another one's: the statement LedgerApart: the call returns true. (Whatever a, b and the row of bools are.)
-/
import Derived.Test.YtjmfhkpaloipkaaRows
import Derived.WalkKit
import Derived.ProofKit
import Derived.OpenShut
import Derived.ShutString
import Derived.ChangeOld
import Derived.Below
import Derived.Carry
import Derived.Test.YtjmfhkpaloipkaaOpn
import Derived.Test.YtjmfhkpaloipkaaOpb
import Derived.Test.YtjmfhkpaloipkaaLg6
import Derived.Deep.RegionHeld
import Derived.Deep.RegionHeld3
import Derived.OrdersHeld
namespace Go.Proofs.Ytjmfhkpaloipkaa.ledgerApart
open Go.ChangeShapes Go.WideShapes Go.ChangeAt Go.RowKit
open Go.ChangeMaps (open_string shut_string)
set_option linter.unusedVariables false

theorem own : ownKnob Try.prog.godebug = none := by kernel_rfl
theorem laidOut : laidOutB Try.prog = true := by kernel_rfl

open Go.Deep

/-- A Ledger in wr of which frame 0 has p symbols (u told), frame 1 has q (v told); the block KB that holds p and q; the block NB that holds m and n. -/
structure Ap (X : Nat → Prop) (w wr : World) (a KB NB p q u v m n T : Nat) : Prop where
  led : ∃ t G, LedX X wr a t G ∧ t ≤ T ∧ G 0 = some (p, u) ∧ G 1 = some (q, v)
  k0 : wr.cell? ⟨KB, 0, none⟩ = some (.int .i64 (p : Int))
  k1 : wr.cell? ⟨KB, 1, none⟩ = some (.int .i64 (q : Int))
  n0 : wr.cell? ⟨NB, 0, none⟩ = some (.int .i64 (m : Int))
  n1 : wr.cell? ⟨NB, 1, none⟩ = some (.int .i64 (n : Int))
  frz : ∀ i, wr.frozen? ⟨NB, i, none⟩ = false
  xk : X KB
  xn : X NB
  ne : KB ≠ NB
  inw : InW X wr
  xw : ∀ i, i < w.heap.size → X i
  nb : w.heap.size ≤ NB
  bel : Below w.heap.size w wr
section
variable {X : Nat → Prop} {w wr w' : World} {a KB NB p q u v m n T : Nat}
theorem Ap.step {u' v' T' : Nat} (h : Ap X w wr a KB NB p q u v m n T) (K : KeptF (fun i => ¬ X i) wr w') (l : ∃ t G, LedX X w' a t G ∧ t ≤ T' ∧ G 0 = some (p, u') ∧ G 1 = some (q, v')) : Ap X w w' a KB NB p q u' v' m n T' := by
  have bk := K.block KB (h.inw KB h.xk) fun f => f h.xk
  have bn := K.block NB (h.inw NB h.xn) fun f => f h.xn
  exact ⟨l, (World.cell?_of_block bk).trans h.k0, (World.cell?_of_block bk).trans h.k1, (World.cell?_of_block bn).trans h.n0, (World.cell?_of_block bn).trans h.n1, fun i => (World.frozen?_of_block (a := ⟨NB, i, none⟩) bn).trans (h.frz i), h.xk, h.xn, h.ne, h.inw.kept K, h.xw, h.nb, h.bel.trans (K.belowX h.xw h.bel.size)⟩
theorem Ap.grew (h : Ap X w wr a KB NB p q u v m n T) (b : Below wr.heap.size wr w') : Ap X w w' a KB NB p q u v m n T :=
  h.step (KeptF.of_below b) (by obtain ⟨t, G, L, r⟩ := h.led; exact ⟨t, G, L.grew b, r⟩)
theorem Ap.next0 (h : Ap X w wr a KB NB p q u v m n T) (hu : u < 64) (hT : T ≤ 1000000) :
    Calls Try.prog 14 #[.pointer (some ⟨a, 0, none⟩), .int .u32 0] wr fun e w' => e = .returned (.tuple #[.int .i64 ((p + u : Nat) : Int), .bool true]) ∧ Ap X w w' a KB NB p q (u + 1) v m n (T + 1) := by
  obtain ⟨t, G, L, ht, g0, g1⟩ := h.led
  refine (lnextX_at X a t 0 p u G wr L (by decide) (by omega) g0 hu).mono ?_
  rintro e w' ⟨rfl, L', K'⟩
  exact ⟨rfl, h.step K' ⟨t + 1, _, L', by omega, Lg.put_same _ _ _, (Lg.put_other _ _ (by decide)).trans g1⟩⟩
theorem Ap.next1 (h : Ap X w wr a KB NB p q u v m n T) (hv : v < 64) (hT : T ≤ 1000000) :
    Calls Try.prog 14 #[.pointer (some ⟨a, 0, none⟩), .int .u32 1] wr fun e w' => e = .returned (.tuple #[.int .i64 ((q + v : Nat) : Int), .bool true]) ∧ Ap X w w' a KB NB p q u (v + 1) m n (T + 1) := by
  obtain ⟨t, G, L, ht, g0, g1⟩ := h.led
  refine (lnextX_at X a t 1 q v G wr L (by decide) (by omega) g1 hv).mono ?_
  rintro e w' ⟨rfl, L', K'⟩
  exact ⟨rfl, h.step K' ⟨t + 1, _, L', by omega, (Lg.put_other _ _ (by decide)).trans g0, Lg.put_same _ _ _⟩⟩
theorem Ap.left0 (h : Ap X w wr a KB NB p q u v m n T) :
    Calls Try.prog 16 #[.pointer (some ⟨a, 0, none⟩), .int .u32 0] wr fun e w' => e = .returned (.int .i64 ((64 - u : Nat) : Int)) ∧ w' = wr := by
  obtain ⟨t, G, L, ht, g0, g1⟩ := h.led
  exact lleftX_at X a t 0 p u G wr L (by decide) g0
theorem Ap.left1 (h : Ap X w wr a KB NB p q u v m n T) :
    Calls Try.prog 16 #[.pointer (some ⟨a, 0, none⟩), .int .u32 1] wr fun e w' => e = .returned (.int .i64 ((64 - v : Nat) : Int)) ∧ w' = wr := by
  obtain ⟨t, G, L, ht, g0, g1⟩ := h.led
  exact lleftX_at X a t 1 q v G wr L (by decide) g1
theorem Ap.close0 (h : Ap X w wr a KB NB p q u v m n T) :
    Calls Try.prog 12 #[.pointer (some ⟨a, 0, none⟩), .int .u32 0] wr fun e w' => e = .returned (.bool true) ∧ w'.cell? ⟨NB, 1, none⟩ = some (.int .i64 (n : Int)) ∧ Below w.heap.size w w' ∧ ∀ W, Same w' W → Calls Try.prog 16 #[.pointer (some ⟨a, 0, none⟩), .int .u32 1] W fun e w' => e = .returned (.int .i64 ((64 - v : Nat) : Int)) ∧ w' = W := by
  obtain ⟨t, G, L, ht, g0, g1⟩ := h.led
  refine (lcloseX X a t 0 G wr L (by decide)).mono ?_
  rintro e w' ⟨rfl, L', K'⟩
  rw [g0]
  refine ⟨rfl, (World.cell?_of_block (K'.block NB (h.inw NB h.xn) fun f => f h.xn)).trans h.n1, h.bel.trans (K'.belowX h.xw h.bel.size), fun W hW => ?_⟩
  exact lleftX_at X a t 1 q v _ W (L'.grew (hW.below _)) (by decide) ((Lg.put_other _ _ (by decide)).trans g1)
theorem Ap.set0 {m' : Nat} (h : Ap X w wr a KB NB p q u v m n T) : Ap X w (wr.setCell ⟨NB, 0, none⟩ (.int .i64 (m' : Int))) a KB NB p q u v m' n T := by
  have K : Kept NB wr (wr.setCell ⟨NB, 0, none⟩ (.int .i64 (m' : Int))) := Kept.set _ _ _
  obtain ⟨t, G, L, r⟩ := h.led
  exact ⟨⟨t, G, L.kept (KeptF.of_kept (F := fun i => i = NB) K rfl) fun i e => e ▸ h.xn, r⟩, K.cell h.k0 h.ne, K.cell h.k1 h.ne, World.cell?_setCell_same _ _ _ h.n0, (World.cell?_setCell_other _ _ _ _ (fun e => by injection e with _ e; omega)).trans h.n1, fun i => by rw [World.frozen?_setCell]; exact h.frz i, h.xk, h.xn, h.ne, fun i hi => Nat.lt_of_lt_of_le (h.inw i hi) K.size, h.xw, h.nb, h.bel.trans (K.below h.nb h.bel.size)⟩
theorem Ap.set1 {n' : Nat} (h : Ap X w wr a KB NB p q u v m n T) : Ap X w (wr.setCell ⟨NB, 1, none⟩ (.int .i64 (n' : Int))) a KB NB p q u v m n' T := by
  have K : Kept NB wr (wr.setCell ⟨NB, 1, none⟩ (.int .i64 (n' : Int))) := Kept.set _ _ _
  obtain ⟨t, G, L, r⟩ := h.led
  exact ⟨⟨t, G, L.kept (KeptF.of_kept (F := fun i => i = NB) K rfl) fun i e => e ▸ h.xn, r⟩, K.cell h.k0 h.ne, K.cell h.k1 h.ne, (World.cell?_setCell_other _ _ _ _ (fun e => by injection e with _ e; omega)).trans h.n0, World.cell?_setCell_same _ _ _ h.n1, fun i => by rw [World.frozen?_setCell]; exact h.frz i, h.xk, h.xn, h.ne, fun i hi => Nat.lt_of_lt_of_le (h.inw i hi) K.size, h.xw, h.nb, h.bel.trans (K.below h.nb h.bel.size)⟩
theorem Ap.mono {T' : Nat} (h : Ap X w wr a KB NB p q u v m n T) (hT : T ≤ T') : Ap X w wr a KB NB p q u v m n T' := by
  obtain ⟨t, G, L, ht, r⟩ := h.led
  exact h.step (KeptF.refl _ _) ⟨t, G, L, by omega, r⟩
/-- One block more that a Ledger keeps off. -/
theorem LedX.more {t : Nat} {G : Lg.St} (h : LedX X wr a t G) (o : Obj) : LedX (fun i => X i ∨ i = wr.heap.size) (wr.alloc o) a t G := by
  obtain ⟨V, L, h2, h3⟩ := h
  refine ⟨V, L.grew ((Below.refl _ _).alloc (Nat.le_refl _) _), fun f => ?_, fun b e f => ?_⟩
  · rcases f with f | f
    · exact h2 f
    · have := L.lt; omega
  · rcases f with f | f
    · exact h3 b e f
    · subst e; have := L.map.lt; omega
end

theorem part {A : Nat} (hA : A < 256) : ∃ r p : Nat, p = 1 + A % 32 ∧ 1 ≤ p ∧ p ≤ 32 ∧ r = A % 32 ∧ (A : Int).tmod 32 = (r : Int) ∧ (A : Int) % 32 = (r : Int) ∧ IntKind.u8.wrap (r : Int) = r ∧ IntKind.i64.wrap (r : Int) = r ∧ 1 + (r : Int) = (p : Int) ∧ IntKind.i64.wrap (p : Int) = p := by
  refine ⟨A % 32, 1 + A % 32, rfl, by omega, by omega, rfl, ?_, rfl, ?_, ?_, by omega, ?_⟩
  · rw [Int.tmod_eq_emod_of_nonneg (by omega)]; rfl
  · simp [IntKind.wrap, IntKind.bits, IntKind.signed]; omega
  · simp [IntKind.wrap, IntKind.bits, IntKind.signed]; omega
  · simp [IntKind.wrap, IntKind.bits, IntKind.signed]; omega

set_option maxRecDepth 100000 in
set_option maxHeartbeats 4000000 in
theorem core (A B : Nat) (r : Option Addr) (N cap : Nat) (z : Nat → Bool) (w : World) (hA : A < 256) (hB : B < 256) (hz : FlagsAt w r N z) :
    Calls Try.prog 6 #[.int .u8 (A : Int), .int .u8 (B : Int), .slice r N cap] w fun e w' => e = .returned (.bool true) ∧ Below w.heap.size w w' := by
  have HF : Hid (FlagsAt w r N z) := hz
  have hB0 : Hid (Calls Try.prog 7 #[] w fun e w' => e = .returned (.bool true) ∧ Below w.heap.size w w') := begun23 w
  obtain ⟨r1, p, -, p1, p2, -, a1, a2, a3, a4, a5, a6⟩ := part hA
  obtain ⟨r2, q, -, q1, q2, -, b1, b2, b3, b4, b5, b6⟩ := part hB
  clear hz hA hB
  go_enter Try.func6, Try.ntmps6
  go_wp2_with fail
  refine hB0.out.mono ?_
  rintro e w0 ⟨rfl, bw⟩
  clear hB0
  by_cases hN : 60 < N
  · have d1 : decide (60 < (N : Int)) = true := decide_eq_true (by omega)
    have d2 : decide (60 < N) = true := decide_eq_true hN
    have HE : Hid (Below w.heap.size w w0) := bw
    clear HF bw
    go_wp2
    go_ret
    exact ⟨rfl, HE.out⟩
  have d1 : decide (60 < (N : Int)) = false := decide_eq_false (by omega)
  have d2 : decide (60 < N) = false := decide_eq_false hN
  obtain ⟨wk, ek⟩ : ∃ wk, w0.alloc (.cells #[.int .i64 (p : Int), .int .i64 (q : Int)] 38) = wk := ⟨_, rfl⟩
  have HB1 : Hid (Below w.heap.size w wk) := by rw [← ek]; exact bw.trans (((Below.refl _ _).alloc (Nat.le_refl _) _).mono bw.size)
  obtain ⟨KB, eK⟩ : ∃ KB, w0.heap.size = KB := ⟨_, rfl⟩
  have y0 : wk.cell? ⟨KB, 0, none⟩ = some (.int .i64 (p : Int)) := by rw [← ek, ← eK, World.cell?_alloc_at _ _ _ _ rfl]; rfl
  have y1 : wk.cell? ⟨KB, 1, none⟩ = some (.int .i64 (q : Int)) := by rw [← ek, ← eK, World.cell?_alloc_at _ _ _ _ rfl]; rfl
  have bw' : Hid (Below w.heap.size w w0) := bw
  clear bw
  go_wp2_with fail
  obtain ⟨X, hX⟩ : ∃ X : Nat → Prop, X = fun i => i < wk.heap.size := ⟨_, rfl⟩
  have I1 : InW X wk := by rw [hX]; exact fun _ h => h
  have XK : X KB := by rw [hX]; exact cell_lt y0
  have XW : ∀ i, i < w.heap.size → X i := by rw [hX]; exact fun i hi => Nat.lt_of_lt_of_le hi HB1.out.size
  clear hX bw' ek eK
  refine (lnewX X wk I1).mono ?_
  rintro e w1 ⟨a, rfl, L0, K0⟩
  have y0 := (World.cell?_of_block (a := ⟨KB, 0, none⟩) (K0.block KB (I1 KB XK) fun f => f XK)).trans y0
  have y1 := (World.cell?_of_block (a := ⟨KB, 1, none⟩) (K0.block KB (I1 KB XK) fun f => f XK)).trans y1
  have I2 := I1.kept K0
  have HB2 : Hid (Below w.heap.size w w1) := HB1.out.trans (K0.belowX XW HB1.out.size)
  clear I1 K0 HB1
  go_wp2_with fail
  refine (lopenX_at X a 0 0 p _ w1 L0 I2 (by decide) (by decide) rfl p1 p2).mono ?_
  rintro e w2 ⟨rfl, L1, K1⟩
  have y0 := (World.cell?_of_block (a := ⟨KB, 0, none⟩) (K1.block KB (I2 KB XK) fun f => f XK)).trans y0
  have y1 := (World.cell?_of_block (a := ⟨KB, 1, none⟩) (K1.block KB (I2 KB XK) fun f => f XK)).trans y1
  have I3 := I2.kept K1
  have HB3 : Hid (Below w.heap.size w w2) := HB2.out.trans (K1.belowX XW HB2.out.size)
  clear I2 K1 HB2 L0
  go_wp2_with fail
  refine (lopenX_at X a 1 1 q _ w2 L1 I3 (by decide) (by decide) ((Lg.put_other _ _ (by decide)).trans rfl) q1 q2).mono ?_
  rintro e w3 ⟨rfl, L2, K2⟩
  have y0 := (World.cell?_of_block (a := ⟨KB, 0, none⟩) (K2.block KB (I3 KB XK) fun f => f XK)).trans y0
  have y1 := (World.cell?_of_block (a := ⟨KB, 1, none⟩) (K2.block KB (I3 KB XK) fun f => f XK)).trans y1
  have I4 := I3.kept K2
  have HB4 : Hid (Below w.heap.size w w3) := HB3.out.trans (K2.belowX XW HB3.out.size)
  clear I3 K2 HB3 L1
  have S0 : Hid (Ap (fun i => X i ∨ i = w3.heap.size) w (w3.alloc (.cells #[.int .i64 0, .int .i64 0] 38)) a KB w3.heap.size p q 0 0 0 0 2) := by
    have b5 : Below w3.heap.size w3 (w3.alloc (.cells #[.int .i64 0, .int .i64 0] 38)) := (Below.refl _ _).alloc (Nat.le_refl _) _
    have lt := I4 KB XK
    refine ⟨⟨2, _, LedX.more L2 _, by decide, (Lg.put_other _ _ (by decide)).trans (Lg.put_same _ _ _), Lg.put_same _ _ _⟩, (World.cell?_of_block (b5.block KB lt)).trans y0, (World.cell?_of_block (b5.block KB lt)).trans y1, by rw [World.cell?_alloc_at _ _ _ _ rfl]; rfl, by rw [World.cell?_alloc_at _ _ _ _ rfl]; rfl, fun i => by rw [World.frozen?_alloc_at _ _ _ _ rfl], .inl XK, .inr rfl, by omega, fun i hi => ?_, fun i hi => .inl (XW i hi), HB4.out.size, HB4.out.trans (b5.mono HB4.out.size)⟩
    have z : (w3.alloc (.cells #[.int .i64 0, .int .i64 0] 38)).heap.size = w3.heap.size + 1 := by simp
    rw [z]
    rcases hi with hi | hi
    · have := I4 i hi; omega
    · omega
  clear L2 y0 y1 I4 HB4 XK XW a1 a2 a3 a4 a5 a6 b1 b2 b3 b4 b5 b6 p1 q1
  go_wp2_with fail
  generalize w3.alloc (.cells #[.int .i64 0, .int .i64 0] 38) = w5 at *
  obtain ⟨NB, eN⟩ : ∃ NB, w3.heap.size = NB := ⟨_, rfl⟩
  rw [eN] at S0 ⊢
  obtain ⟨Y, hY⟩ : ∃ Y : Nat → Prop, Y = fun i => X i ∨ i = NB := ⟨_, rfl⟩
  rw [← hY] at S0
  clear hY eN
  go_loopw [10] (fun i wr => ∃ j u v : Nat, j ≤ N ∧ u ≤ j ∧ v ≤ j ∧ i = .int .i64 j ∧ Hid (Ap Y w wr a KB NB p q u v u v (2 + j))) (fun i _ => N - (intOf i).toNat)
  case atStart => exact ⟨0, 0, 0, Nat.zero_le _, Nat.le_refl _, Nat.le_refl _, rfl, S0⟩
  case round =>
    clear S0
    obtain ⟨j, u, v, hj, hu, hv, rfl, HS⟩ := hrel
    by_cases hjN : j < N
    · have i1 : decide ((j : Int) < (N : Int)) = true := decide_eq_true (by omega)
      have i2 : decide (j < N) = true := decide_eq_true hjN
      obtain ⟨b, o, rfl, hc⟩ := HF.out (by omega)
      have cz : wr.cell? ⟨b, o + j, none⟩ = some (.bool (z j)) := (HS.out.bel.cell (p := ⟨b, o + j, none⟩) (cell_lt (hc j hjN))).trans (hc j hjN)
      clear hc
      cases hzj : z j with
      | true =>
        rw [hzj] at cz
        clear hzj
        have h64 : v < 64 := by omega
        obtain ⟨V, eV⟩ : ∃ V, v + 1 = V := ⟨_, rfl⟩
        have v1 : (v : Int) + 1 = (V : Int) := by omega
        have v2 : IntKind.i64.wrap (V : Int) = V := by simp [IntKind.wrap, IntKind.bits, IntKind.signed]; omega
        obtain ⟨R, eR⟩ : ∃ R, q + v = R := ⟨_, rfl⟩
        have r1 : (q : Int) + (v : Int) = (R : Int) := by omega
        have r2 : IntKind.i64.wrap (R : Int) = R := by simp [IntKind.wrap, IntKind.bits, IntKind.signed]; omega
        obtain ⟨M1, m1⟩ : ∃ M, 64 - V = M := ⟨_, rfl⟩
        have m2 : (64 : Int) - (V : Int) = (M1 : Int) := by omega
        have m3 : IntKind.i64.wrap (M1 : Int) = M1 := by simp [IntKind.wrap, IntKind.bits, IntKind.signed]; omega
        obtain ⟨M2, m4⟩ : ∃ M, 64 - u = M := ⟨_, rfl⟩
        have m5 : (64 : Int) - (u : Int) = (M2 : Int) := by omega
        have m6 : IntKind.i64.wrap (M2 : Int) = M2 := by simp [IntKind.wrap, IntKind.bits, IntKind.signed]; omega
        have CN : Hid (Calls Try.prog 14 #[.pointer (some ⟨a, 0, none⟩), .int .u32 1] wr fun e w' => e = .returned (.tuple #[.int .i64 (R : Int), .bool true]) ∧ Ap Y w w' a KB NB p q u V u v (2 + j + 1)) := by
          have := HS.out.next1 h64 (by omega)
          rw [eR, eV] at this
          exact this
        have CL0 : Hid (∀ w', Ap Y w w' a KB NB p q u V u V (2 + j + 1) → Calls Try.prog 16 #[.pointer (some ⟨a, 0, none⟩), .int .u32 0] w' fun e w'' => e = .returned (.int .i64 (M2 : Int)) ∧ w'' = w') := fun w' h => by
          have := h.left0
          rw [m4] at this
          exact this
        have CL1 : Hid (∀ w', Ap Y w w' a KB NB p q u V u V (2 + j + 1) → Calls Try.prog 16 #[.pointer (some ⟨a, 0, none⟩), .int .u32 1] w' fun e w'' => e = .returned (.int .i64 (M1 : Int)) ∧ w'' = w') := fun w' h => by
          have := h.left1
          rw [m1] at this
          exact this
        have HV : Hid (V ≤ j + 1) := (show V ≤ j + 1 by omega)
        clear eR m1 m4 eV
        go_wp2_with fail
        refine CN.out.mono ?_
        rintro e w2 ⟨rfl, s2⟩
        have q0 := s2.k0
        have q1 := s2.k1
        have t0 := s2.n0
        have t1 := s2.n1
        have S2 : Hid (Ap Y w w2 a KB NB p q u V u v (2 + j + 1)) := s2
        clear s2 CN HS cz
        go_wp2_with fail
        go_quiet (fail)
        have S3 : Hid (Ap Y w (w2.drewN nq) a KB NB p q u V u v (2 + j + 1)) := S2.out.grew (below_drews _)
        clear S2 q0 q1 t0 t1
        generalize w2.drewN nq = w3 at *
        have t0 := S3.out.n0
        have t1 := S3.out.n1
        have f0 := S3.out.frz 1
        obtain ⟨w4, e4⟩ : ∃ w4, w3.setCell ⟨NB, 1, none⟩ (.int .i64 (V : Int)) = w4 := ⟨_, rfl⟩
        have S4 : Hid (Ap Y w w4 a KB NB p q u V u V (2 + j + 1)) := by rw [← e4]; exact S3.out.set1
        have o0 := S4.out.n0
        have o1 := S4.out.n1
        have D0 : ∀ nn, Hid (Calls Try.prog 16 #[.pointer (some ⟨a, 0, none⟩), .int .u32 0] (w4.drewN nn) fun e w'' => e = .returned (.int .i64 (M2 : Int)) ∧ w'' = w4.drewN nn) := fun nn => CL0.out _ (S4.out.grew (below_drews nn))
        have D1 : ∀ nn, Hid (Calls Try.prog 16 #[.pointer (some ⟨a, 0, none⟩), .int .u32 1] (w4.drewN nn) fun e w'' => e = .returned (.int .i64 (M1 : Int)) ∧ w'' = w4.drewN nn) := fun nn => CL1.out _ (S4.out.grew (below_drews nn))
        clear CL0 CL1 S3
        go_wp2_with fail
        clear t0 t1 f0 e4
        go_quiet ((go_at_call 16; first | exact Calls.quiet_of_same (D0 _).out | exact Calls.quiet_of_same (D1 _).out))
        have S5 : Hid (Ap Y w (w4.drewN nq) a KB NB p q u V u V (2 + j + 1)) := S4.out.grew (below_drews _)
        clear S4 o0 o1 D0 D1
        generalize w4.drewN nq = w5 at *
        go_wp2
        go_roundw
        case rel => exact ⟨j + 1, u, V, by omega, by omega, HV.out, by go_num, S5⟩
        case measure => simp [intOf]; omega
      | false =>
        rw [hzj] at cz
        clear hzj
        have h64 : u < 64 := by omega
        obtain ⟨V, eV⟩ : ∃ V, u + 1 = V := ⟨_, rfl⟩
        have v1 : (u : Int) + 1 = (V : Int) := by omega
        have v2 : IntKind.i64.wrap (V : Int) = V := by simp [IntKind.wrap, IntKind.bits, IntKind.signed]; omega
        obtain ⟨R, eR⟩ : ∃ R, p + u = R := ⟨_, rfl⟩
        have r1 : (p : Int) + (u : Int) = (R : Int) := by omega
        have r2 : IntKind.i64.wrap (R : Int) = R := by simp [IntKind.wrap, IntKind.bits, IntKind.signed]; omega
        obtain ⟨M1, m1⟩ : ∃ M, 64 - V = M := ⟨_, rfl⟩
        have m2 : (64 : Int) - (V : Int) = (M1 : Int) := by omega
        have m3 : IntKind.i64.wrap (M1 : Int) = M1 := by simp [IntKind.wrap, IntKind.bits, IntKind.signed]; omega
        obtain ⟨M2, m4⟩ : ∃ M, 64 - v = M := ⟨_, rfl⟩
        have m5 : (64 : Int) - (v : Int) = (M2 : Int) := by omega
        have m6 : IntKind.i64.wrap (M2 : Int) = M2 := by simp [IntKind.wrap, IntKind.bits, IntKind.signed]; omega
        have CN : Hid (Calls Try.prog 14 #[.pointer (some ⟨a, 0, none⟩), .int .u32 0] wr fun e w' => e = .returned (.tuple #[.int .i64 (R : Int), .bool true]) ∧ Ap Y w w' a KB NB p q V v u v (2 + j + 1)) := by
          have := HS.out.next0 h64 (by omega)
          rw [eR, eV] at this
          exact this
        have CL0 : Hid (∀ w', Ap Y w w' a KB NB p q V v V v (2 + j + 1) → Calls Try.prog 16 #[.pointer (some ⟨a, 0, none⟩), .int .u32 0] w' fun e w'' => e = .returned (.int .i64 (M1 : Int)) ∧ w'' = w') := fun w' h => by
          have := h.left0
          rw [m1] at this
          exact this
        have CL1 : Hid (∀ w', Ap Y w w' a KB NB p q V v V v (2 + j + 1) → Calls Try.prog 16 #[.pointer (some ⟨a, 0, none⟩), .int .u32 1] w' fun e w'' => e = .returned (.int .i64 (M2 : Int)) ∧ w'' = w') := fun w' h => by
          have := h.left1
          rw [m4] at this
          exact this
        have HV : Hid (V ≤ j + 1) := (show V ≤ j + 1 by omega)
        clear eR m1 m4 eV
        go_wp2_with fail
        refine CN.out.mono ?_
        rintro e w2 ⟨rfl, s2⟩
        have q0 := s2.k0
        have q1 := s2.k1
        have t0 := s2.n0
        have t1 := s2.n1
        have S2 : Hid (Ap Y w w2 a KB NB p q V v u v (2 + j + 1)) := s2
        clear s2 CN HS cz
        go_wp2_with fail
        go_quiet (fail)
        have S3 : Hid (Ap Y w (w2.drewN nq) a KB NB p q V v u v (2 + j + 1)) := S2.out.grew (below_drews _)
        clear S2 q0 q1 t0 t1
        generalize w2.drewN nq = w3 at *
        have t0 := S3.out.n0
        have t1 := S3.out.n1
        have f0 := S3.out.frz 0
        obtain ⟨w4, e4⟩ : ∃ w4, w3.setCell ⟨NB, 0, none⟩ (.int .i64 (V : Int)) = w4 := ⟨_, rfl⟩
        have S4 : Hid (Ap Y w w4 a KB NB p q V v V v (2 + j + 1)) := by rw [← e4]; exact S3.out.set0
        have o0 := S4.out.n0
        have o1 := S4.out.n1
        have D0 : ∀ nn, Hid (Calls Try.prog 16 #[.pointer (some ⟨a, 0, none⟩), .int .u32 0] (w4.drewN nn) fun e w'' => e = .returned (.int .i64 (M1 : Int)) ∧ w'' = w4.drewN nn) := fun nn => CL0.out _ (S4.out.grew (below_drews nn))
        have D1 : ∀ nn, Hid (Calls Try.prog 16 #[.pointer (some ⟨a, 0, none⟩), .int .u32 1] (w4.drewN nn) fun e w'' => e = .returned (.int .i64 (M2 : Int)) ∧ w'' = w4.drewN nn) := fun nn => CL1.out _ (S4.out.grew (below_drews nn))
        clear CL0 CL1 S3
        go_wp2_with fail
        clear t0 t1 f0 e4
        go_quiet ((go_at_call 16; first | exact Calls.quiet_of_same (D0 _).out | exact Calls.quiet_of_same (D1 _).out))
        have S5 : Hid (Ap Y w (w4.drewN nq) a KB NB p q V v V v (2 + j + 1)) := S4.out.grew (below_drews _)
        clear S4 o0 o1 D0 D1
        generalize w4.drewN nq = w5 at *
        go_wp2
        go_roundw
        case rel => exact ⟨j + 1, V, v, by omega, HV.out, by omega, by go_num, S5⟩
        case measure => simp [intOf]; omega
    · obtain rfl : j = N := by omega
      have i1 : decide ((j : Int) < (j : Int)) = false := decide_eq_false (by omega)
      obtain ⟨L1, l1⟩ : ∃ L1, L1 = 64 - v := ⟨_, rfl⟩
      have l2 : (64 : Int) - (v : Int) = (L1 : Int) := by omega
      have l3 : IntKind.i64.wrap (L1 : Int) = L1 := by simp [IntKind.wrap, IntKind.bits, IntKind.signed]; omega
      have HL : Hid (L1 = 64 - v) := l1
      clear l1
      go_wp2_with fail
      refine wp_region_held (S := fun W => W.cell? ⟨NB, 1, none⟩ = some (.int .i64 (v : Int))) (by kernel_rfl) ?_
      change wpAnyH _ _ _ _ _ _ _ _ wr.drew
      have HS : Hid (Ap Y w wr.drew a KB NB p q u v u v (2 + j)) := HS.out.grew (Below.refl _ wr).drew
      generalize wr.drew = w6 at *
      have hr := HS.out.n1
      refine wpAnyH_take (i := 0) (v := .pointer (some ⟨a, 0, none⟩)) rfl (by kernel_rfl) (by kernel_rfl) (by kernel_rfl) (fun _ _ _ h => h) (Yields.yieldsIf (Or.inl ⟨by kernel_rfl, fun _ => by kernel_rfl⟩)) hr ?_
      refine wpAnyH_ready (rs := [1]) (by kernel_rfl) (by simp) ?_
      refine AllReadyH.cons rfl (fun K2 hK2 => ?_) AllReadyH.nil
      go_simp
      refine HS.out.close0.mono ?_
      rintro e w7 ⟨rfl, c7, b7, l7⟩
      have C7 : Hid (∀ W, Same w7 W → Calls Try.prog 16 #[.pointer (some ⟨a, 0, none⟩), .int .u32 1] W fun e w' => e = .returned (.int .i64 (L1 : Int)) ∧ w' = W) := fun W q => by
        have := l7 W q
        rw [← HL.out] at this
        exact this
      have B7 : Hid (Below w.heap.size w w7) := b7
      clear b7 l7 HS
      refine hK2.out _ _ c7 (fun hr => ?_)
      clear hK2 K2
      refine wpAnyH_take (i := 2) (v := .bool true) rfl (by kernel_rfl) (by kernel_rfl) (by kernel_rfl) (fun _ _ _ h => h) (Yields.yieldsIf (Or.inl ⟨by kernel_rfl, fun _ => by kernel_rfl⟩)) hr ?_
      refine wpAnyH_take (i := 3) (v := .pointer (some ⟨a, 0, none⟩)) rfl (by kernel_rfl) (by kernel_rfl) (by kernel_rfl) (fun _ _ _ h => h) (Yields.yieldsIf (Or.inl ⟨by kernel_rfl, fun _ => by kernel_rfl⟩)) hr ?_
      refine wpAnyH_take (i := 5) (v := .pointer (some ⟨NB, 1, none⟩)) rfl (by kernel_rfl) (by kernel_rfl) (by kernel_rfl) (fun _ _ _ h => h) (Yields.yieldsIf (Or.inl ⟨by kernel_rfl, fun _ => by go_simp⟩)) hr ?_
      refine wpAnyH_take (i := 6) (v := .int .i64 (v : Int)) rfl (by kernel_rfl) (by kernel_rfl) (by kernel_rfl) (fun _ _ _ h => h) (Or.inl ⟨by kernel_rfl, fun W hW => by have g := hW; go_simp⟩) hr ?_
      refine wpAnyH_take (i := 7) (v := .int .i64 (L1 : Int)) rfl (by kernel_rfl) (by kernel_rfl) (by kernel_rfl) (fun _ _ _ h => h) (Yields.yieldsIf (Or.inl ⟨by kernel_rfl, fun _ => by go_simp⟩)) hr ?_
      refine wpAnyH_ready (rs := [4]) (by kernel_rfl) (by simp) ?_
      refine AllReadyH.cons rfl (fun K2 hK2 => ?_) AllReadyH.nil
      go_simp
      refine (C7.out _ (Same.refl _)).mono ?_
      rintro e w8 ⟨rfl, rfl⟩
      refine hK2.out _ _ hr (fun _ => ?_)
      clear hK2 K2
      refine wpAnyH_take (i := 8) (v := .bool true) rfl (by kernel_rfl) (by kernel_rfl) (by kernel_rfl) (fun _ _ _ h => h) (Yields.yieldsIf (Or.inl ⟨by kernel_rfl, fun _ => by go_simp⟩)) hr ?_
      refine wpAnyH_take (i := 9) (v := .bool true) rfl (by kernel_rfl) (by kernel_rfl) (by kernel_rfl) (fun _ _ _ h => h) (Yields.yieldsIf (Or.inl ⟨by kernel_rfl, fun _ => by go_simp⟩)) hr ?_
      refine wpAnyH_take (i := 10) (v := .bool true) rfl (by kernel_rfl) (by kernel_rfl) (by kernel_rfl) (fun _ _ _ h => h) (Yields.yieldsIf (Or.inl ⟨by kernel_rfl, fun _ => by go_simp⟩)) hr ?_
      refine wpAnyH_done (by kernel_rfl) ?_ _
      go_wp2
      go_ret
      exact ⟨rfl, B7.out⟩
theorem walk (a0 a1 : Int) (r : Option Addr) (N cap : Nat) (z : Nat → Bool) (w : World) (h0 : (Lit.int .u8 a0).wf = true) (h1 : (Lit.int .u8 a1).wf = true) (h2 : FlagsAt w r N z ∧ N ≤ cap ∧ cap ≤ maxLen) :
    Calls Try.prog 6 #[.int .u8 a0, .int .u8 a1, .slice r N cap] w fun e w' => e = .returned (.bool true) ∧ Below w.heap.size w w' := by
  have b0 := bounds_u8 h0
  have b1 := bounds_u8 h1
  obtain ⟨A, rfl⟩ : ∃ n : Nat, a0 = n := ⟨a0.toNat, by omega⟩
  obtain ⟨B, rfl⟩ : ∃ n : Nat, a1 = n := ⟨a1.toNat, by omega⟩
  exact core A B r N cap z w (by omega) (by omega) h2.1

set_option maxRecDepth 100000 in
theorem lifted (os : Os) (started : os.Started) (H : Type) (enc : TypeId × Value → H) :
    ReturnsInHanded {} Try.checked os 6 .any (Rows.ledgerApartSpec.pre6 enc Try.prog Try.f6 Rows.ledgerApartRow.domain false) (Rows.ledgerApartSpec.post enc Try.prog Try.f6 false true false false) := by
  refine returnsInHanded_of_change (C := Try.checked) own started (by kernel_rfl) Try.func6
    (ChangeSpec.witness6 (enc := enc) (C := Try.checked) false ⟨#[], #[.int .u8 0, .int .u8 0, .slice none 0 0], []⟩ 8 (by kernel_rfl) (by kernel_rfl) (by kernel_rfl) (by kernel_rfl)) ?_
  intro W base args ds gs before hval0 hW hcnd _
  have hval : ∀ (j : Nat) t v, Try.f6.params[j]? = some t → args[j]? = some v → Value.okWide Try.prog W .any base t v := hval0
  have hW' := hW
  obtain ⟨p, q, hA0, hV, rfl, hfz, hnd⟩ := hW
  have hA : DataW.TrodAll enc Try.prog W 0 (fun _ => true) true Try.f6.params.toList args.toList ds p := hA0
  rw [Try.params6] at hA hval
  obtain ⟨v0, vs0, d0, ds0, p0, q0, hargs, rfl, rfl, h0, r0⟩ := trodAll_cons hA
  obtain ⟨v1, vs1, d1, ds1, p1, q1, rfl, rfl, rfl, h1, r1⟩ := trodAll_cons r0
  obtain ⟨v2, vs2, d2, ds2, p2, q2, rfl, rfl, rfl, h2, r2⟩ := trodAll_cons r1
  obtain ⟨rfl, rfl, rfl⟩ := trodAll_nil r2
  obtain rfl : args = #[v0, v1, v2] := by cases args; simp_all
  obtain ⟨rfl, rfl⟩ := trodVars_none hV
  obtain ⟨a0, rfl, rfl, rfl, w0⟩ := open_int Try.underlying5 (hval 0 5 v0 rfl rfl) h0
  obtain ⟨a1, rfl, rfl, rfl, w1⟩ := open_int Try.underlying5 (hval 1 5 v1 rfl rfl) h1
  obtain ⟨a2, len2, cap2, rfl⟩ := okWide_slice Try.underlying36 (hval 2 36 v2 rfl rfl)
  have k2 := h2
  have lt2 : ∀ x ∈ p2, x.block < W.heap.size := by obtain ⟨m, hm⟩ := k2; exact DataW.trod_lt m _ _ _ hm
  obtain ⟨x2, w2⟩ := open_flags Try.underlying36 Try.underlying4 (by kernel_rfl) h2
  clear hA0 hval0
  refine (walk a0 a1 a2 len2 cap2 x2 W w0 w1 w2).mono fun e W' ⟨he, bel⟩ => ?_
  subst he
  exact ⟨_, rfl, _, _, _, [], _, [], hW', trodAll_mk1 (shut_bool Try.underlying4 _), (trodAll_cons_mk (shut_int Try.underlying5 w0) (trodAll_cons_mk (shut_int Try.underlying5 w1) (trodAll_cons_mk (Below.trod laidOut (by kernel_rfl) (of_decide_eq_true (by kernel_rfl)) k2 bel lt2) trodAll_mk0))), rfl, bel.frame _, fun h => by cases h⟩

theorem over : Rows.ledgerApartRow.holds Try.pinned (OpenSpec.ofChange Rows.ledgerApartSpec) :=
  OpenClaim.holds_of_wide 6 Try.f6 rfl rfl rfl rfl rfl rfl rfl ⟨rfl, rfl, rfl, rfl, rfl⟩ rfl rfl rfl rfl rfl (by kernel_rfl) Try.func6 (by kernel_rfl)
    (of_decide_eq_true (by kernel_rfl)) (by unfold Func.isWrapper; first | (rw [if_pos (by decide +kernel)]; kernel_rfl) | (rw [if_neg (by decide +kernel)]; exact ⟨rfl, rfl⟩))
    (fun os started H enc _ => lifted os started H enc)

theorem proved : Rows.LedgerApartSaid := over
end Go.Proofs.Ytjmfhkpaloipkaa.ledgerApart
namespace Go.Proofs.Ytjmfhkpaloipkaa
theorem ledgerApart_holds : Rows.LedgerApartSaid := ledgerApart.proved
#print axioms ledgerApart_holds
end Go.Proofs.Ytjmfhkpaloipkaa

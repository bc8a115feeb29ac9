/-
  Each symbol is told once, one behind the other, till there are none: the statement LedgerOnce: the call returns true. (Whatever k and the row of bools are.)
-/
import Derived.Test.YtjmfhkpaloipkaaRows
import Derived.WalkKit
import Derived.ProofKit
import Derived.OpenShut
import Derived.ShutString
import Derived.ChangeOld
import Derived.Below
import Derived.Carry
import Derived.Test.YtjmfhkpaloipkaaOpn
import Derived.Test.YtjmfhkpaloipkaaOpb
import Derived.Test.YtjmfhkpaloipkaaLg6
namespace Go.Proofs.Ytjmfhkpaloipkaa.ledgerOnce
open Go.ChangeShapes Go.WideShapes Go.ChangeAt Go.RowKit
open Go.ChangeMaps (open_string shut_string)
set_option linter.unusedVariables false

theorem own : ownKnob Try.prog.godebug = none := by kernel_rfl
theorem laidOut : laidOutB Try.prog = true := by kernel_rfl

open Go.Deep

/-- Of a Ledger in w, frame 7 has n symbols, of which i were told. -/
def At7 (X : Nat → Prop) (w w' : World) (a n i T : Nat) : Prop := ∃ t G, LedX X w' a t G ∧ t ≤ T ∧ G 7 = some (n, i) ∧ KeptF (fun i => ¬ X i) w w'
theorem At7.next {X : Nat → Prop} {w w1 : World} {a n i T : Nat} (h : At7 X w w1 a n i T) (hi : i < 64) (hT : T ≤ 1000000) :
    Calls Try.prog 14 #[.pointer (some ⟨a, 0, none⟩), .int .u32 7] w1 fun e w' => e = .returned (.tuple #[.int .i64 ((n + i : Nat) : Int), .bool true]) ∧ At7 X w w' a n (i + 1) (T + 1) := by
  obtain ⟨t, G, L, ht, g, K⟩ := h
  refine (lnextX_at X a t 7 n i G w1 L (by decide) (by omega) g hi).mono ?_
  rintro e w' ⟨rfl, L', K'⟩
  exact ⟨rfl, t + 1, _, L', by omega, Lg.put_same _ _ _, K.trans K'⟩
theorem At7.next_end {X : Nat → Prop} {w w1 : World} {a n T : Nat} (h : At7 X w w1 a n 64 T) (hT : T ≤ 1000000) :
    Calls Try.prog 14 #[.pointer (some ⟨a, 0, none⟩), .int .u32 7] w1 fun e w' => e = .returned (.tuple #[.int .i64 0, .bool false]) ∧ At7 X w w' a n 64 (T + 1) := by
  obtain ⟨t, G, L, ht, g, K⟩ := h
  refine (lnextX_end X a t 7 n G w1 L (by decide) (by omega) g).mono ?_
  rintro e w' ⟨rfl, L', K'⟩
  exact ⟨rfl, t + 1, G, L', by omega, g, K.trans K'⟩
theorem At7.other {X : Nat → Prop} {w w1 : World} {a n i T : Nat} (h : At7 X w w1 a n i T) (hT : T ≤ 1000000) :
    Calls Try.prog 14 #[.pointer (some ⟨a, 0, none⟩), .int .u32 8] w1 fun e w' => ∃ p q, e = .returned (.tuple #[.int .i64 p, .bool q]) ∧ At7 X w w' a n i (T + 1) := by
  obtain ⟨t, G, L, ht, g, K⟩ := h
  refine (lnextX X a t 8 G w1 L (by decide) (by omega)).mono ?_
  rintro e w' ⟨rfl, L', K'⟩
  exact ⟨_, _, rfl, t + 1, _, L', by omega, (Lg.next_other G (by decide)).trans g, K.trans K'⟩
theorem At7.left {X : Nat → Prop} {w w1 : World} {a n i T : Nat} (h : At7 X w w1 a n i T) :
    Calls Try.prog 16 #[.pointer (some ⟨a, 0, none⟩), .int .u32 7] w1 fun e w' => e = .returned (.int .i64 ((64 - i : Nat) : Int)) ∧ w' = w1 := by
  obtain ⟨t, G, L, ht, g, K⟩ := h
  exact lleftX_at X a t 7 n i G w1 L (by decide) g
theorem At7.mono {X : Nat → Prop} {w w1 : World} {a n i T T' : Nat} (h : At7 X w w1 a n i T) (hT : T ≤ T') : At7 X w w1 a n i T' := by
  obtain ⟨t, G, L, ht, g⟩ := h
  exact ⟨t, G, L, by omega, g⟩

set_option maxRecDepth 100000 in
set_option maxHeartbeats 2000000 in
theorem core (k : Nat) (r : Option Addr) (N cap : Nat) (z : Nat → Bool) (w : World) (hk : k < 256) (hz : FlagsAt w r N z) :
    Calls Try.prog 4 #[.int .u8 (k : Int), .slice r N cap] w fun e w' => e = .returned (.bool true) ∧ Below w.heap.size w w' := by
  obtain ⟨X, hX⟩ : ∃ X : Nat → Prop, X = fun i => i < w.heap.size := ⟨_, rfl⟩
  have HX : Hid (∀ w', KeptF (fun i => ¬ X i) w w' → Below w.heap.size w w') := fun w' K => K.belowX (fun i hi => by rw [hX]; exact hi) (Nat.le_refl _)
  have I : InW X w := by rw [hX]; exact fun _ h => h
  have HF : Hid (FlagsAt w r N z) := hz
  have hB : Hid (Calls Try.prog 7 #[] w fun e w' => e = .returned (.bool true) ∧ Below w.heap.size w w') := begun23 w
  obtain ⟨n, en⟩ : ∃ n, n = 1 + k % 32 := ⟨_, rfl⟩
  have c1 : IntKind.i64.wrap (k : Int) = k := by simp [IntKind.wrap, IntKind.bits, IntKind.signed]; omega
  have c2 : (k : Int).tmod 32 = ((k % 32 : Nat) : Int) := by rw [Int.tmod_eq_emod_of_nonneg (by omega)]; rfl
  have c3 : (k : Int) % 32 = ((k % 32 : Nat) : Int) := rfl
  have c4 : IntKind.i64.wrap ((k % 32 : Nat) : Int) = ((k % 32 : Nat) : Int) := by simp [IntKind.wrap, IntKind.bits, IntKind.signed]; omega
  have c5 : 1 + ((k % 32 : Nat) : Int) = (n : Int) := by omega
  have c6 : IntKind.i64.wrap (n : Int) = n := by simp [IntKind.wrap, IntKind.bits, IntKind.signed]; omega
  have h1 : 1 ≤ n := by omega
  have h2 : n ≤ 32 := by omega
  have EN : Hid (n = 1 + k % 32) := en
  clear hX hz en
  generalize k % 32 = q at *
  go_enter Try.func4, Try.ntmps4
  go_wp2_with fail
  refine hB.out.mono ?_
  rintro e w0 ⟨rfl, b0⟩
  have k0 : KeptF (fun i => ¬ X i) w w0 := KeptF.of_below b0
  have I0 := I.kept k0
  clear hB b0
  go_wp2_with fail
  refine (lnewX X w0 I0).mono ?_
  rintro e w1 ⟨a, rfl, L0, K0⟩
  by_cases hN : 70 < N
  · have d1 : decide (70 < (N : Int)) = true := decide_eq_true (by omega)
    have d2 : decide (70 < N) = true := decide_eq_true hN
    have HE := HX.out _ (k0.trans K0)
    clear L0 HX HF
    go_wp2
    go_ret
    exact ⟨rfl, HE⟩
  have d1 : decide (70 < (N : Int)) = false := decide_eq_false (by omega)
  have d2 : decide (70 < N) = false := decide_eq_false hN
  have I1 := I0.kept K0
  go_wp2_with fail
  refine (lopenX_at X a 0 7 n _ w1 L0 I1 (by decide) (by decide) rfl h1 h2).mono ?_
  rintro e w2 ⟨rfl, L1, K1⟩
  have I2 := I1.kept K1
  go_wp2_with fail
  refine (lopenX_at X a 1 8 1 _ w2 L1 I2 (by decide) (by decide) ((Lg.put_other _ _ (by decide)).trans rfl) (by decide) (by decide)).mono ?_
  rintro e w3 ⟨rfl, L2, K2⟩
  have S0 : Hid (At7 X w w3 a n 0 2) := ⟨2, _, L2, by decide, (Lg.put_other _ _ (by decide)).trans (Lg.put_same _ _ _), ((k0.trans K0).trans K1).trans K2⟩
  clear L0 L1 L2 K0 K1 K2 I0 I1 I2 k0 c1 c2 c3 c4 c5
  go_wp2_with fail
  go_loopw [7] (fun i wr => ∃ j : Nat, j ≤ 64 ∧ i = .int .i64 j ∧ Hid (At7 X w wr a n j (2 + 2 * j))) (fun i _ => 64 - (intOf i).toNat)
  case atStart => exact ⟨0, Nat.zero_le _, rfl, S0⟩
  case round =>
    clear S0
    obtain ⟨j, hj, rfl, HS⟩ := hrel
    by_cases hj64 : j < 64
    · have i1 : decide ((j : Int) < 64) = true := decide_eq_true (by omega)
      have i2 : decide (j < 64) = true := decide_eq_true hj64
      obtain ⟨R, hR⟩ : ∃ R, n + j = R := ⟨_, rfl⟩
      have r1 : (n : Int) + (j : Int) = (R : Int) := by omega
      have r2 : IntKind.i64.wrap (R : Int) = R := by simp [IntKind.wrap, IntKind.bits, IntKind.signed]; omega
      obtain ⟨Q, hQ⟩ : ∃ Q, 63 - j = Q := ⟨_, rfl⟩
      have q1 : (63 : Int) - (j : Int) = (Q : Int) := by omega
      have q2 : IntKind.i64.wrap (Q : Int) = Q := by simp [IntKind.wrap, IntKind.bits, IntKind.signed]; omega
      have C7 : Hid (∀ w1 T, T ≤ 1000000 → At7 X w w1 a n j T → Calls Try.prog 14 #[.pointer (some ⟨a, 0, none⟩), .int .u32 7] w1 fun e w' => e = .returned (.tuple #[.int .i64 (R : Int), .bool true]) ∧ At7 X w w' a n (j + 1) (T + 1)) := fun w1 T hT h => by
        have := h.next hj64 hT
        rw [hR] at this
        exact this
      have CL : Hid (∀ w1 T, At7 X w w1 a n (j + 1) T → Calls Try.prog 16 #[.pointer (some ⟨a, 0, none⟩), .int .u32 7] w1 fun e w' => e = .returned (.int .i64 (Q : Int)) ∧ w' = w1) := fun w1 T h => by
        have := h.left
        rw [show 64 - (j + 1) = Q by omega] at this
        exact this
      clear hR hQ
      by_cases hN2 : j < N
      · have p1 : decide ((j : Int) < (N : Int)) = true := decide_eq_true (by omega)
        obtain ⟨b, o, rfl, hc⟩ := HF.out (by omega)
        obtain ⟨t0, G0, -, -, -, KK⟩ := HS.out
        have bz := cell_lt (hc j hN2)
        have cz : wr.cell? ⟨b, o + j, none⟩ = some (.bool (z j)) := ((HX.out _ KK).cell (p := ⟨b, o + j, none⟩) bz).trans (hc j hN2)
        clear KK hc bz
        cases hzj : z j with
        | true =>
          rw [hzj] at cz
          go_wp2_with fail
          refine (HS.out.other (by omega)).mono ?_
          rintro e w2 ⟨p, q, rfl, s2⟩
          have S2 : Hid (At7 X w w2 a n j (2 + 2 * j + 1)) := s2
          clear s2 HS cz hzj
          go_wp2_with fail
          refine (C7.out w2 _ (by omega) S2.out).mono ?_
          rintro e w3 ⟨rfl, s3⟩
          have S3 : Hid (At7 X w w3 a n (j + 1) (2 + 2 * (j + 1))) := s3.mono (by omega)
          clear S2 s3 C7
          go_wp2_with fail
          refine (CL.out w3 _ S3.out).mono ?_
          rintro e w4 ⟨rfl, rfl⟩
          clear CL
          go_wp2
          go_roundw
          case rel => exact ⟨j + 1, by omega, by go_num, S3⟩
          case measure => simp [intOf]; omega
        | false =>
          rw [hzj] at cz
          obtain ⟨w2, e2⟩ : ∃ w2, w2 = wr := ⟨_, rfl⟩
          have S2 : Hid (At7 X w w2 a n j (2 + 2 * j)) := by rw [e2]; exact HS
          go_wp2_with fail
          subst e2
          clear HS cz hzj
          refine (C7.out w2 _ (by omega) S2.out).mono ?_
          rintro e w3 ⟨rfl, s3⟩
          have S3 : Hid (At7 X w w3 a n (j + 1) (2 + 2 * (j + 1))) := s3.mono (by omega)
          clear S2 s3 C7
          go_wp2_with fail
          refine (CL.out w3 _ S3.out).mono ?_
          rintro e w4 ⟨rfl, rfl⟩
          clear CL
          go_wp2
          go_roundw
          case rel => exact ⟨j + 1, by omega, by go_num, S3⟩
          case measure => simp [intOf]; omega
      · have p1 : decide ((j : Int) < (N : Int)) = false := decide_eq_false (by omega)
        obtain ⟨w2, e2⟩ : ∃ w2, w2 = wr := ⟨_, rfl⟩
        have S2 : Hid (At7 X w w2 a n j (2 + 2 * j)) := by rw [e2]; exact HS
        go_wp2_with fail
        subst e2
        clear HS
        refine (C7.out w2 _ (by omega) S2.out).mono ?_
        rintro e w3 ⟨rfl, s3⟩
        have S3 : Hid (At7 X w w3 a n (j + 1) (2 + 2 * (j + 1))) := s3.mono (by omega)
        clear S2 s3 C7
        go_wp2_with fail
        refine (CL.out w3 _ S3.out).mono ?_
        rintro e w4 ⟨rfl, rfl⟩
        clear CL
        go_wp2
        go_roundw
        case rel => exact ⟨j + 1, by omega, by go_num, S3⟩
        case measure => simp [intOf]; omega
    · obtain rfl : j = 64 := by omega
      go_wp2_with fail
      refine (HS.out.next_end (by decide)).mono ?_
      rintro e w2 ⟨rfl, S2⟩
      obtain ⟨t, G, L, ht, g, K⟩ := S2
      go_wp2_with fail
      refine (lcloseX X a t 7 G w2 L (by decide)).mono ?_
      rintro e w3 ⟨e3, L3, K3⟩
      rw [g] at e3
      obtain rfl : e = .returned (.bool true) := e3
      have K3' := K.trans K3
      have I3 := I.kept K3'
      go_wp2_with fail
      refine (lopenX_at X a t 7 n _ w3 L3 I3 (by decide) (by omega) (Lg.put_same _ _ _) h1 h2).mono ?_
      rintro e w4 ⟨rfl, L4, K4⟩
      have K4' := K3'.trans K4
      go_wp2_with fail
      refine (lleftX_at X a (t + 1) 7 n 0 _ w4 L4 (by decide) (Lg.put_same _ _ _)).mono ?_
      rintro e w5 ⟨rfl, rfl⟩
      go_wp2
      go_ret
      exact ⟨rfl, HX.out _ K4'⟩
theorem walk (a0 : Int) (r : Option Addr) (N cap : Nat) (z : Nat → Bool) (w : World) (h0 : (Lit.int .u8 a0).wf = true) (h1 : FlagsAt w r N z ∧ N ≤ cap ∧ cap ≤ maxLen) :
    Calls Try.prog 4 #[.int .u8 a0, .slice r N cap] w fun e w' => e = .returned (.bool true) ∧ Below w.heap.size w w' := by
  have b0 := bounds_u8 h0
  obtain ⟨n, rfl⟩ : ∃ n : Nat, a0 = n := ⟨a0.toNat, by omega⟩
  exact core n r N cap z w (by omega) h1.1

set_option maxRecDepth 100000 in
theorem lifted (os : Os) (started : os.Started) (H : Type) (enc : TypeId × Value → H) :
    ReturnsInHanded {} Try.checked os 4 .any (Rows.ledgerOnceSpec.pre6 enc Try.prog Try.f4 Rows.ledgerOnceRow.domain false) (Rows.ledgerOnceSpec.post enc Try.prog Try.f4 false true false false) := by
  refine returnsInHanded_of_change (C := Try.checked) own started (by kernel_rfl) Try.func4
    (ChangeSpec.witness6 (enc := enc) (C := Try.checked) false ⟨#[], #[.int .u8 0, .slice none 0 0], []⟩ 8 (by kernel_rfl) (by kernel_rfl) (by kernel_rfl) (by kernel_rfl)) ?_
  intro W base args ds gs before hval0 hW hcnd _
  have hval : ∀ (j : Nat) t v, Try.f4.params[j]? = some t → args[j]? = some v → Value.okWide Try.prog W .any base t v := hval0
  have hW' := hW
  obtain ⟨p, q, hA0, hV, rfl, hfz, hnd⟩ := hW
  have hA : DataW.TrodAll enc Try.prog W 0 (fun _ => true) true Try.f4.params.toList args.toList ds p := hA0
  rw [Try.params4] at hA hval
  obtain ⟨v0, vs0, d0, ds0, p0, q0, hargs, rfl, rfl, h0, r0⟩ := trodAll_cons hA
  obtain ⟨v1, vs1, d1, ds1, p1, q1, rfl, rfl, rfl, h1, r1⟩ := trodAll_cons r0
  obtain ⟨rfl, rfl, rfl⟩ := trodAll_nil r1
  obtain rfl : args = #[v0, v1] := by cases args; simp_all
  obtain ⟨rfl, rfl⟩ := trodVars_none hV
  obtain ⟨a0, rfl, rfl, rfl, w0⟩ := open_int Try.underlying5 (hval 0 5 v0 rfl rfl) h0
  obtain ⟨a1, len1, cap1, rfl⟩ := okWide_slice Try.underlying36 (hval 1 36 v1 rfl rfl)
  have k1 := h1
  have lt1 : ∀ x ∈ p1, x.block < W.heap.size := by obtain ⟨m, hm⟩ := k1; exact DataW.trod_lt m _ _ _ hm
  obtain ⟨x1, w1⟩ := open_flags Try.underlying36 Try.underlying4 (by kernel_rfl) h1
  clear hA0 hval0
  refine (walk a0 a1 len1 cap1 x1 W w0 w1).mono fun e W' ⟨he, bel⟩ => ?_
  subst he
  exact ⟨_, rfl, _, _, _, [], _, [], hW', trodAll_mk1 (shut_bool Try.underlying4 _), (trodAll_cons_mk (shut_int Try.underlying5 w0) (trodAll_cons_mk (Below.trod laidOut (by kernel_rfl) (of_decide_eq_true (by kernel_rfl)) k1 bel lt1) trodAll_mk0)), rfl, bel.frame _, fun h => by cases h⟩

theorem over : Rows.ledgerOnceRow.holds Try.pinned (OpenSpec.ofChange Rows.ledgerOnceSpec) :=
  OpenClaim.holds_of_wide 4 Try.f4 rfl rfl rfl rfl rfl rfl rfl ⟨rfl, rfl, rfl, rfl, rfl⟩ rfl rfl rfl rfl rfl (by kernel_rfl) Try.func4 (by kernel_rfl)
    (of_decide_eq_true (by kernel_rfl)) (by unfold Func.isWrapper; first | (rw [if_pos (by decide +kernel)]; kernel_rfl) | (rw [if_neg (by decide +kernel)]; exact ⟨rfl, rfl⟩))
    (fun os started H enc _ => lifted os started H enc)

theorem proved : Rows.LedgerOnceSaid := over
end Go.Proofs.Ytjmfhkpaloipkaa.ledgerOnce
namespace Go.Proofs.Ytjmfhkpaloipkaa
theorem ledgerOnce_holds : Rows.LedgerOnceSaid := ledgerOnce.proved
#print axioms ledgerOnce_holds
end Go.Proofs.Ytjmfhkpaloipkaa

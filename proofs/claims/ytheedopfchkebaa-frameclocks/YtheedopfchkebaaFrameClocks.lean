/-
  A frame out of numbers that may be may be as long as its deadline is ahead, and no longer: the call returns true, whatever the numbers and the clock are (60 numbers at most are looked at; no condition).
-/
import Derived.Test.YtheedopfchkebaaRows
import Derived.WalkKit
import Derived.ProofKit
import Derived.OpenShut
import Derived.ShutString
import Derived.ChangeOld
import Derived.Below
import Derived.Carry
import Derived.Test.YtheedopfchkebaaOpn
import Derived.Test.YtheedopfchkebaaFbn
import Derived.Test.YtheedopfchkebaaFfr
namespace Go.Proofs.Ytheedopfchkebaa.frameClocks
open Go.ChangeShapes Go.WideShapes Go.ChangeAt Go.RowKit
open Go.ChangeMaps (open_string shut_string)
set_option linter.unusedVariables false

theorem own : ownKnob Try.prog.godebug = none := by kernel_rfl
theorem laidOut : laidOutB Try.prog = true := by kernel_rfl

open Go.Deep

theorem chk_first (f : Fr) (r : Nat → Int) (m : Nat) (K : Nat → Fr) (t0 t s : Int) (hm : m < 100) (h0 : t0 < 0) :
    (chk f r m K t0 s ≠ 0 → chk f r m K t s = chk f r m K t0 s) ∧ (chk f r m K t0 s = 0 → chk f r m K t s = if f.d ≤ t then 7 else 0) := by
  unfold chk
  by_cases h1 : f.terms
  · by_cases h2 : cuts f.s s
    · by_cases h3 : f.turn m K
      · by_cases h4 : f.refs r m K
        · have h5 : ¬ f.d ≤ t0 := by
            obtain ⟨-, q1, q2, -⟩ := h1
            omega
          have h6 : ¬ 100 ≤ m := by omega
          simp [h1, h2, h3, h4, h5, h6]
        · simp [h1, h2, h3, h4]
      · simp [h1, h2, h3]
    · simp [h1, h2]
  · simp [h1]

set_option maxRecDepth 100000 in
set_option maxHeartbeats 2000000 in
theorem core (a : Option Addr) (n c : Nat) (x : Nat → Nat) (t : Int) (w : World) (h : BytesAt w a n x) (hn : n ≤ 60) :
    Calls Try.prog 7 #[.slice a n c, .int .i64 t] w fun e w' => e = .returned (.bool true) ∧ Below w.heap.size w w' := by
  have i1 : decide ((60 : Int) < (n : Int)) = false := by simp; omega
  go_enter Try.func7, Try.ntmps7
  go_wp2_with fail
  refine (begun12 _).mono ?_
  rintro e w1 ⟨rfl, b1⟩
  have h1 := h.grew b1
  go_wp2_with fail
  refine (made_any a n c x w1 h1 hn).mono ?_
  rintro e w2 ⟨rfl, b2, s2, pk⟩
  have HB2 : Hid (Below w.heap.size w w2) := b1.trans (b2.mono b1.size)
  have lw : w.heap.size ≤ w1.heap.size := b1.size
  generalize w1.heap.size = P at *
  have HW : Hid (w.heap.size ≤ P) := lw
  clear h h1 b1 b2 i1 lw
  go_wp2_with fail
  refine (frames_any (P + 1) P 0 w2 pk (by omega)).mono ?_
  rintro e w3 ⟨c3, v, m, K, rfl, hF, hm, hI⟩
  obtain ⟨r, cap, rfl, hfr, hbk⟩ := hF.any
  have HS : Hid (w2.heap.size = P + 1) := s2
  obtain ⟨lo, l1, l2⟩ : ∃ lo : Nat, (m = 0 → lo = 0) ∧ (0 < m → lo = (K (m - 1)).id) := by
    by_cases e : m = 0
    · exact ⟨0, fun _ => rfl, fun h => absurd h (by omega)⟩
    · exact ⟨_, fun h => absurd h e, fun _ => rfl⟩
  obtain ⟨p3, hp3⟩ := c3.picks
  have C3 : Hid (Chose (P + 1) P w2 w3) := c3
  have HF3 : Hid (Ffo w3 w2.heap.size (.slice r m cap) m K) := hF
  have N3 : Hid (∀ (t : Nat), t ≤ 1000 → Calls Try.prog 14 #[.pointer (some ⟨P, 0, none⟩), .slice r m cap, .int .i64 (t : Int), .int .i64 4] w3 (NextIs (P + 1) P lo w3)) := fun t ht =>
    next_any (P + 1) P p3 lo r m cap K t w3 hp3 (by have := c3.kept.size; omega) ht (by omega) (fun b o e => by have := (hbk b o e).1; omega) (fun h0 => by have := hI.1 (m - 1) (by omega); omega) l1 l2 hfr
  clear hF hfr hbk l1 l2 hp3 hI pk s2 c3
  go_wp2_with fail
  refine (N3.out 5 (by decide)).mono ?_
  rintro e w4 ⟨c4, f, rr, bv, rfl, hu, hn4, hid⟩
  have hu4 := hu.refs (by omega)
  have HF4 := HF3.out.kept c4.kept (by have := HS.out; omega)
  obtain ⟨r', cap', er, hfr4, -⟩ := HF4.any
  cases er
  obtain ⟨y0, e0⟩ : ∃ x, w4.alloc (.cells #[.int .u32 (f.id : Int), .int .i64 f.k, .slice f.a f.n f.c, .int .i64 f.s, .int .i64 f.p, .int .i64 f.d] 25) = x := ⟨_, rfl⟩
  have B0 : Below w4.heap.size w4 y0 := e0 ▸ box_below w4 _
  have F0 : FrAt y0 w4.heap.size f := e0 ▸ FrAt.made w4 _ f
  have HY : Hid (Below w.heap.size w y0) := (HB2.out.trans ((C3.out.kept.below HW.out (Nat.le_trans HW.out (by have := HS.out; omega))))).trans ((c4.kept.below HW.out (Nat.le_trans HB2.out.size C3.out.kept.size)).trans (B0.mono (Nat.le_trans (Nat.le_trans HB2.out.size C3.out.kept.size) c4.kept.size)))
  have HU : Hid (RefsAt y0 f rr) := hu4.grew B0
  have HK : Hid (FrsAt y0 r m K) := hfr4.grew B0
  have HFR : Hid (FrAt y0 w4.heap.size f) := F0
  obtain ⟨E1, hE1⟩ : ∃ E, chk f rr m K (-9223372036854775808) 4 = E := ⟨_, rfl⟩
  obtain ⟨E2, hE2⟩ : ∃ E, chk f rr m K t 4 = E := ⟨_, rfl⟩
  have HE1 : Hid (chk f rr m K (-9223372036854775808) 4 = E1) := hE1
  have HE2 : Hid (chk f rr m K t 4 = E2) := hE2
  have HX : Hid ((E1 ≠ 0 → E2 = E1) ∧ (E1 = 0 → E2 = if f.d ≤ t then 7 else 0)) := by
    have := chk_first f rr m K (-9223372036854775808) t 4 (by omega) (by decide)
    rw [hE1, hE2] at this
    exact this
  obtain ⟨f0, f1, f2, f3, f4, f5, -⟩ := F0
  clear B0 hu hu4 HF4 hfr4 c4 hE1 hE2 hid N3 C3 HF3 HB2 HS HW
  unfold Fr.val
  go_wp2_with fail
  clear e0
  generalize w4.heap.size = N at *
  refine (check_is (f := f) (r := rr) (K := K) (E := E1) HE1.out (by omega) HU.out HK.out).mono ?_
  rintro e w5 ⟨rfl, d5⟩
  clear f0 f1 f2 f3 f4 f5
  have D5 : Hid (Below y0.heap.size y0 w5) := d5
  obtain ⟨f0, f1, f2, f3, f4, f5, -⟩ := HFR.out.grew d5
  clear d5
  go_wp2_with fail
  refine (check_is (f := f) (r := rr) (K := K) (E := E2) HE2.out (by omega) (HU.out.grew D5.out) (HK.out.grew D5.out)).mono ?_
  rintro e w6 ⟨rfl, d6⟩
  clear f0 f1 f2 f3 f4 f5
  have D6 : Hid (Below y0.heap.size y0 w6) := D5.out.trans (d6.mono D5.out.size)
  obtain ⟨f0, f1, f2, f3, f4, f5, -⟩ := HFR.out.grew D6.out
  have HZ : Hid (Below w.heap.size w w6) := HY.out.trans (D6.out.mono HY.out.size)
  clear d6 D5 HE1 HE2 HU HK HFR D6 HY
  by_cases h0 : E1 = 0
  · have hx := HX.out.2 h0
    have a1 : (E1 != 0) = false := by simp [h0]
    clear HX h0
    by_cases hd : f.d ≤ t
    · rw [if_pos hd] at hx
      subst hx
      have a2 : decide (t < f.d) = false := by simp; omega
      go_wp2
      go_ret
      exact ⟨rfl, HZ.out⟩
    · rw [if_neg hd] at hx
      subst hx
      have a2 : t < f.d := by omega
      go_wp2
      go_ret
      exact ⟨rfl, HZ.out⟩
  · have hx := HX.out.1 h0
    have a1 : (E1 != 0) = true := by simpa using h0
    clear HX h0
    subst hx
    go_wp2
    go_ret
    exact ⟨by simp, HZ.out⟩

set_option maxRecDepth 100000 in
theorem long (a : Option Addr) (n c : Nat) (t : Int) (w : World) (hn : ¬ n ≤ 60) :
    Calls Try.prog 7 #[.slice a n c, .int .i64 t] w fun e w' => e = .returned (.bool true) ∧ Below w.heap.size w w' := by
  have i1 : (60 : Int) < (n : Int) := by omega
  go_enter Try.func7, Try.ntmps7
  go_wp2_with fail
  refine (begun12 _).mono ?_
  rintro e w1 ⟨rfl, b1⟩
  have HB : Hid (Below w.heap.size w w1) := b1
  clear b1 hn
  go_wp2
  go_ret
  exact ⟨rfl, HB.out⟩

theorem walk (a : Option Addr) (n c : Nat) (x : Nat → Nat) (t : Int) (w : World) (h : BytesAt w a n x ∧ n ≤ c ∧ c ≤ maxLen) (_ : (Lit.int .i64 t).wf = true) :
    Calls Try.prog 7 #[.slice a n c, .int .i64 t] w fun e w' => e = .returned (.bool true) ∧ Below w.heap.size w w' := by
  by_cases hn : n ≤ 60
  · exact core a n c x t w h.1 hn
  · exact long a n c t w hn

set_option maxRecDepth 100000 in
theorem lifted (os : Os) (started : os.Started) (H : Type) (enc : TypeId × Value → H) :
    ReturnsInHanded {} Try.checked os 7 .any (Rows.frameClocksSpec.pre6 enc Try.prog Try.f7 Rows.frameClocksRow.domain false) (Rows.frameClocksSpec.post enc Try.prog Try.f7 false true false false) := by
  refine returnsInHanded_of_change (C := Try.checked) own started (by kernel_rfl) Try.func7
    (ChangeSpec.witness6 (enc := enc) (C := Try.checked) false ⟨#[], #[.slice none 0 0, .int .i64 0], []⟩ 8 (by kernel_rfl) (by kernel_rfl) (by kernel_rfl) (by kernel_rfl)) ?_
  intro W base args ds gs before hval0 hW hcnd _
  have hval : ∀ (j : Nat) t v, Try.f7.params[j]? = some t → args[j]? = some v → Value.okWide Try.prog W .any base t v := hval0
  have hW' := hW
  obtain ⟨p, q, hA0, hV, rfl, hfz, hnd⟩ := hW
  have hA : DataW.TrodAll enc Try.prog W 0 (fun _ => true) true Try.f7.params.toList args.toList ds p := hA0
  rw [Try.params7] at hA hval
  obtain ⟨v0, vs0, d0, ds0, p0, q0, hargs, rfl, rfl, h0, r0⟩ := trodAll_cons hA
  obtain ⟨v1, vs1, d1, ds1, p1, q1, rfl, rfl, rfl, h1, r1⟩ := trodAll_cons r0
  obtain ⟨rfl, rfl, rfl⟩ := trodAll_nil r1
  obtain rfl : args = #[v0, v1] := by cases args; simp_all
  obtain ⟨rfl, rfl⟩ := trodVars_none hV
  obtain ⟨a0, len0, cap0, rfl⟩ := okWide_slice Try.underlying32 (hval 0 32 v0 rfl rfl)
  have k0 := h0
  have lt0 : ∀ x ∈ p0, x.block < W.heap.size := by obtain ⟨m, hm⟩ := k0; exact DataW.trod_lt m _ _ _ hm
  obtain ⟨x0, w0⟩ : ∃ x, BytesAt W a0 len0 x ∧ len0 ≤ cap0 ∧ cap0 ≤ maxLen := open_bytes Try.underlying32 Try.underlying5 (by kernel_rfl) h0
  obtain ⟨a1, rfl, rfl, rfl, w1⟩ := open_int Try.underlying2 (hval 1 2 v1 rfl rfl) h1
  clear hA0 hval0
  refine (walk a0 len0 cap0 x0 a1 W w0 w1).mono fun e W' ⟨he, bel⟩ => ?_
  subst he
  exact ⟨_, rfl, _, _, _, [], _, [], hW', trodAll_mk1 (shut_bool Try.underlying4 _), (trodAll_cons_mk (Below.trod laidOut (by kernel_rfl) (of_decide_eq_true (by kernel_rfl)) k0 bel lt0) (trodAll_cons_mk (shut_int Try.underlying2 w1) trodAll_mk0)), rfl, bel.frame _, fun h => by cases h⟩

theorem over : Rows.frameClocksRow.holds Try.pinned (OpenSpec.ofChange Rows.frameClocksSpec) :=
  OpenClaim.holds_of_wide 7 Try.f7 rfl rfl rfl rfl rfl rfl rfl ⟨rfl, rfl, rfl, rfl, rfl⟩ rfl rfl rfl rfl rfl (by kernel_rfl) Try.func7 (by kernel_rfl)
    (of_decide_eq_true (by kernel_rfl)) (by unfold Func.isWrapper; first | (rw [if_pos (by decide +kernel)]; kernel_rfl) | (rw [if_neg (by decide +kernel)]; exact ⟨rfl, rfl⟩))
    (fun os started H enc _ => lifted os started H enc)

theorem proved : Rows.FrameClocksSaid := over
end Go.Proofs.Ytheedopfchkebaa.frameClocks
namespace Go.Proofs.Ytheedopfchkebaa
theorem frameClocks_holds : Rows.FrameClocksSaid := frameClocks.proved
#print axioms frameClocks_holds
end Go.Proofs.Ytheedopfchkebaa

/-
  Who hangs on whom is told as the document does, both ways, among frames out of numbers: the call returns true, whatever the numbers and the ID are (120 numbers at most are looked at; no condition).
-/
import Derived.Test.YtclbcggbnbimaaaRows
import Derived.WalkKit
import Derived.ProofKit
import Derived.OpenShut
import Derived.ShutString
import Derived.ChangeOld
import Derived.Below
import Derived.Carry
import Derived.Test.YtclbcggbnbimaaaOpn
import Derived.Test.YtclbcggbnbimaaaTbg
import Derived.Test.YtclbcggbnbimaaaRtc
namespace Go.Proofs.Ytclbcggbnbimaaa.treeAll
open Go.ChangeShapes Go.WideShapes Go.ChangeAt Go.RowKit
open Go.ChangeMaps (open_string shut_string)
set_option linter.unusedVariables false

theorem own : ownKnob Try.prog.godebug = none := by kernel_rfl
theorem laidOut : laidOutB Try.prog = true := by kernel_rfl

open Go.Deep

/-- Known ones in memory. -/
structure Knw (w : World) (r : Option Addr) (m : Nat) (K : Nat → Fr) (R : Nat → Nat → Int) (W : World) : Prop where
  cr : Crowd W r m K R
  bel : Below w.heap.size w W
theorem Knw.grew {w W W' : World} {r : Option Addr} {m : Nat} {K : Nat → Fr} {R : Nat → Nat → Int} (h : Knw w r m K R W) (hb : Below W.heap.size W W') : Knw w r m K R W' :=
  ⟨h.cr.grew hb, h.bel.trans (hb.mono h.bel.size)⟩

set_option maxRecDepth 100000 in
set_option maxHeartbeats 1000000 in
theorem core (a : Option Addr) (n c : Nat) (x : Nat → Nat) (z : Nat) (w : World) (h : BytesAt w a n x) (hn : n ≤ 120) (hz : z < 4294967296) :
    Calls Try.prog 3 #[.slice a n c, .int .u32 (z : Int)] w fun e w' => e = .returned (.bool true) ∧ Below w.heap.size w w' := by
  have i1 : decide ((120 : Int) < (n : Int)) = false := by simp; omega
  go_enter Try.func3, Try.ntmps3
  go_wp2_with fail
  refine (begun14 _).mono ?_
  rintro e w1 ⟨rfl, b1⟩
  have h1 := h.grew b1
  go_wp2_with fail
  refine (made_any a n c x w1 h1 (by omega)).mono ?_
  rintro e w2 ⟨rfl, b2, s2, pk⟩
  have HB2 : Hid (Below w.heap.size w w2) := b1.trans (b2.mono b1.size)
  have lw : w.heap.size ≤ w1.heap.size := b1.size
  generalize w1.heap.size = P at *
  clear h h1 b1 b2 i1
  go_wp2_with fail
  refine (frames_any (P + 1) P 0 15 w2 pk (by omega) (by decide)).mono ?_
  rintro e w3 ⟨c3, v, m, K, R, rfl, hF, hm, hI, hG, hH⟩
  have HB3 : Hid (Below w.heap.size w w3) := HB2.out.trans (c3.kept.below lw (by omega))
  obtain ⟨r, cap, rfl, hfr, -⟩ := hF.any
  have HK : Hid (Knw w r m K R w3) := ⟨crowd_of hfr hI hG hH hm, HB3.out⟩
  clear hF hfr hI hG hH c3 pk s2 lw HB2 HB3
  go_wp2_with fail
  go_loopw [6] (fun i wr => ∃ t : Nat, i = .int .i64 t ∧ t ≤ m + 1 ∧ Hid (Knw w r m K R wr)) (fun i _ => m + 1 - (intOf i).toNat)
  case atStart => exact ⟨0, rfl, Nat.zero_le _, HK⟩
  case round =>
    clear HK
    obtain ⟨t, rfl, ht, HK⟩ := hrel
    by_cases htm : t ≤ m
    case neg =>
      have i1 : decide ((t : Int) ≤ (m : Int)) = false := by simp; omega
      go_wp2
      go_ret
      exact ⟨rfl, HK.out.bel⟩
    have i1 : (t : Int) ≤ (m : Int) := by omega
    by_cases htl : t < m
    case pos =>
      have i2 : (t : Int) < (m : Int) := by omega
      have hC := HK.out.cr
      obtain ⟨fb, fo, rfl⟩ := hC.frs.addr (by omega)
      obtain ⟨q0, q1, q2, q3, q4, q5⟩ := hC.frs.at t htl
      have HY : Hid ((K t).id < 4294967296) := hC.ids t htl
      clear q1 q2 q3 q4 q5 hC
      generalize (K t).id = y at *
      go_wp2_with fail
      refine (above_any _ m cap K R y wr hm HY.out HK.out.cr).mono ?_
      rintro e w4 ⟨b4, v4, s4, rfl, hs4, ht4⟩
      have HK4 : Hid (Knw w (some ⟨fb, fo, none⟩) m K R w4) := HK.out.grew b4
      have HS4 : Hid (∀ q, q < m → (s4 q = true ↔ Behind (Edge K R m) K m y q)) := hs4
      have HT4 : Hid (Told w4 wr.heap.size v4 (picked s4 m) K) := ht4
      clear b4 hs4 ht4 HK
      go_wp2_with fail
      refine (rabove_any _ m cap K R y w4 HK4.out.cr).mono ?_
      rintro e w5 ⟨b5, v5, s5, rfl, hs5, ht5⟩
      have HK5 : Hid (Knw w (some ⟨fb, fo, none⟩) m K R w5) := HK4.out.grew b5
      have SAME : Hid (Calls Try.prog 9 #[v4, v5] w5 fun e w' => e = .returned (.bool true) ∧ Same w5 w') := same14_told (by omega) HS4.out hs5 (HT4.out.grew b5) ht5
      clear b5 hs5 ht5 HK4 HS4 HT4
      go_wp2_with fail
      refine SAME.out.mono ?_
      rintro e w6 ⟨rfl, sm6⟩
      have HK6 : Hid (Knw w (some ⟨fb, fo, none⟩) m K R w6) := HK5.out.grew (sm6.below _)
      clear SAME sm6 HK5
      go_wp2_with fail
      refine (below_any _ m cap K R y w6 hm HY.out HK6.out.cr).mono ?_
      rintro e w7 ⟨b7, v7, s7, rfl, hs7, ht7⟩
      have HK7 : Hid (Knw w (some ⟨fb, fo, none⟩) m K R w7) := HK6.out.grew b7
      have HS7 : Hid (∀ q, q < m → (s7 q = true ↔ Behind (fun p i => Edge K R m i p) K m y q)) := hs7
      have HT7 : Hid (Told w7 w6.heap.size v7 (picked s7 m) K) := ht7
      clear b7 hs7 ht7 HK6
      go_wp2_with fail
      refine (rbelow_any _ m cap K R y w7 HK7.out.cr).mono ?_
      rintro e w8 ⟨b8, v8, s8, rfl, hs8, ht8⟩
      have HK8 : Hid (Knw w (some ⟨fb, fo, none⟩) m K R w8) := HK7.out.grew b8
      have SAME : Hid (Calls Try.prog 9 #[v7, v8] w8 fun e w' => e = .returned (.bool true) ∧ Same w8 w') := same14_told (by omega) HS7.out hs8 (HT7.out.grew b8) ht8
      clear b8 hs8 ht8 HK7 HS7 HT7
      go_wp2_with fail
      refine SAME.out.mono ?_
      rintro e w9 ⟨rfl, sm9⟩
      have HK9 : Hid (Knw w (some ⟨fb, fo, none⟩) m K R w9) := HK8.out.grew (sm9.below _)
      clear SAME sm9 HK8
      go_wp2_with fail
      go_roundw
      case rel => exact ⟨t + 1, by go_num, by omega, HK9⟩
      case measure => simp [intOf]; omega
    case neg =>
      have i2 : decide ((t : Int) < (m : Int)) = false := by simp; omega
      go_wp2_with fail
      refine (above_any r m cap K R z wr hm hz HK.out.cr).mono ?_
      rintro e w4 ⟨b4, v4, s4, rfl, hs4, ht4⟩
      have HK4 : Hid (Knw w r m K R w4) := HK.out.grew b4
      have HS4 : Hid (∀ q, q < m → (s4 q = true ↔ Behind (Edge K R m) K m z q)) := hs4
      have HT4 : Hid (Told w4 wr.heap.size v4 (picked s4 m) K) := ht4
      clear b4 hs4 ht4 HK
      go_wp2_with fail
      refine (rabove_any r m cap K R z w4 HK4.out.cr).mono ?_
      rintro e w5 ⟨b5, v5, s5, rfl, hs5, ht5⟩
      have HK5 : Hid (Knw w r m K R w5) := HK4.out.grew b5
      have SAME : Hid (Calls Try.prog 9 #[v4, v5] w5 fun e w' => e = .returned (.bool true) ∧ Same w5 w') := same14_told (by omega) HS4.out hs5 (HT4.out.grew b5) ht5
      clear b5 hs5 ht5 HK4 HS4 HT4
      go_wp2_with fail
      refine SAME.out.mono ?_
      rintro e w6 ⟨rfl, sm6⟩
      have HK6 : Hid (Knw w r m K R w6) := HK5.out.grew (sm6.below _)
      clear SAME sm6 HK5
      go_wp2_with fail
      refine (below_any r m cap K R z w6 hm hz HK6.out.cr).mono ?_
      rintro e w7 ⟨b7, v7, s7, rfl, hs7, ht7⟩
      have HK7 : Hid (Knw w r m K R w7) := HK6.out.grew b7
      have HS7 : Hid (∀ q, q < m → (s7 q = true ↔ Behind (fun p i => Edge K R m i p) K m z q)) := hs7
      have HT7 : Hid (Told w7 w6.heap.size v7 (picked s7 m) K) := ht7
      clear b7 hs7 ht7 HK6
      go_wp2_with fail
      refine (rbelow_any r m cap K R z w7 HK7.out.cr).mono ?_
      rintro e w8 ⟨b8, v8, s8, rfl, hs8, ht8⟩
      have HK8 : Hid (Knw w r m K R w8) := HK7.out.grew b8
      have SAME : Hid (Calls Try.prog 9 #[v7, v8] w8 fun e w' => e = .returned (.bool true) ∧ Same w8 w') := same14_told (by omega) HS7.out hs8 (HT7.out.grew b8) ht8
      clear b8 hs8 ht8 HK7 HS7 HT7
      go_wp2_with fail
      refine SAME.out.mono ?_
      rintro e w9 ⟨rfl, sm9⟩
      have HK9 : Hid (Knw w r m K R w9) := HK8.out.grew (sm9.below _)
      clear SAME sm9 HK8
      go_wp2_with fail
      go_roundw
      case rel => exact ⟨t + 1, by go_num, by omega, HK9⟩
      case measure => simp [intOf]; omega

set_option maxRecDepth 100000 in
theorem long (a : Option Addr) (n c : Nat) (z : Int) (w : World) (hn : ¬ n ≤ 120) :
    Calls Try.prog 3 #[.slice a n c, .int .u32 z] w fun e w' => e = .returned (.bool true) ∧ Below w.heap.size w w' := by
  have i1 : (120 : Int) < (n : Int) := by omega
  go_enter Try.func3, Try.ntmps3
  go_wp2_with fail
  refine (begun14 _).mono ?_
  rintro e w1 ⟨rfl, b1⟩
  have HB : Hid (Below w.heap.size w w1) := b1
  clear b1 hn
  go_wp2
  go_ret
  exact ⟨rfl, HB.out⟩

theorem walk (a : Option Addr) (n c : Nat) (x : Nat → Nat) (z : Int) (w : World) (h : BytesAt w a n x ∧ n ≤ c ∧ c ≤ maxLen) (hz : (Lit.int .u32 z).wf = true) :
    Calls Try.prog 3 #[.slice a n c, .int .u32 z] w fun e w' => e = .returned (.bool true) ∧ Below w.heap.size w w' := by
  have hb := bounds_u32 hz
  obtain ⟨y, rfl⟩ : ∃ y : Nat, z = (y : Int) := ⟨z.toNat, by omega⟩
  by_cases hn : n ≤ 120
  · exact core a n c x y w h.1 hn (by omega)
  · exact long a n c y w hn

set_option maxRecDepth 100000 in
theorem lifted (os : Os) (started : os.Started) (H : Type) (enc : TypeId × Value → H) :
    ReturnsInHanded {} Try.checked os 3 .any (Rows.treeAllSpec.pre6 enc Try.prog Try.f3 Rows.treeAllRow.domain false) (Rows.treeAllSpec.post enc Try.prog Try.f3 false true false false) := by
  refine returnsInHanded_of_change (C := Try.checked) own started (by kernel_rfl) Try.func3
    (ChangeSpec.witness6 (enc := enc) (C := Try.checked) false ⟨#[], #[.slice none 0 0, .int .u32 0], []⟩ 8 (by kernel_rfl) (by kernel_rfl) (by kernel_rfl) (by kernel_rfl)) ?_
  intro W base args ds gs before hval0 hW hcnd _
  have hval : ∀ (j : Nat) t v, Try.f3.params[j]? = some t → args[j]? = some v → Value.okWide Try.prog W .any base t v := hval0
  have hW' := hW
  obtain ⟨p, q, hA0, hV, rfl, hfz, hnd⟩ := hW
  have hA : DataW.TrodAll enc Try.prog W 0 (fun _ => true) true Try.f3.params.toList args.toList ds p := hA0
  rw [Try.params3] at hA hval
  obtain ⟨v0, vs0, d0, ds0, p0, q0, hargs, rfl, rfl, h0, r0⟩ := trodAll_cons hA
  obtain ⟨v1, vs1, d1, ds1, p1, q1, rfl, rfl, rfl, h1, r1⟩ := trodAll_cons r0
  obtain ⟨rfl, rfl, rfl⟩ := trodAll_nil r1
  obtain rfl : args = #[v0, v1] := by cases args; simp_all
  obtain ⟨rfl, rfl⟩ := trodVars_none hV
  obtain ⟨a0, len0, cap0, rfl⟩ := okWide_slice Try.underlying22 (hval 0 22 v0 rfl rfl)
  have k0 := h0
  have lt0 : ∀ x ∈ p0, x.block < W.heap.size := by obtain ⟨m, hm⟩ := k0; exact DataW.trod_lt m _ _ _ hm
  obtain ⟨x0, w0⟩ : ∃ x, BytesAt W a0 len0 x ∧ len0 ≤ cap0 ∧ cap0 ≤ maxLen := open_bytes Try.underlying22 Try.underlying5 (by kernel_rfl) h0
  obtain ⟨a1, rfl, rfl, rfl, w1⟩ := open_int Try.underlying23 (hval 1 23 v1 rfl rfl) h1
  clear hA0 hval0
  refine (walk a0 len0 cap0 x0 a1 W w0 w1).mono fun e W' ⟨he, bel⟩ => ?_
  subst he
  exact ⟨_, rfl, _, _, _, [], _, [], hW', trodAll_mk1 (shut_bool Try.underlying4 _), (trodAll_cons_mk (Below.trod laidOut (by kernel_rfl) (of_decide_eq_true (by kernel_rfl)) k0 bel lt0) (trodAll_cons_mk (shut_int Try.underlying23 w1) trodAll_mk0)), rfl, bel.frame _, fun h => by cases h⟩

theorem over : Rows.treeAllRow.holds Try.pinned (OpenSpec.ofChange Rows.treeAllSpec) :=
  OpenClaim.holds_of_wide 3 Try.f3 rfl rfl rfl rfl rfl rfl rfl ⟨rfl, rfl, rfl, rfl, rfl⟩ rfl rfl rfl rfl rfl (by kernel_rfl) Try.func3 (by kernel_rfl)
    (of_decide_eq_true (by kernel_rfl)) (by unfold Func.isWrapper; first | (rw [if_pos (by decide +kernel)]; kernel_rfl) | (rw [if_neg (by decide +kernel)]; exact ⟨rfl, rfl⟩))
    (fun os started H enc _ => lifted os started H enc)

theorem proved : Rows.TreeAllSaid := over
end Go.Proofs.Ytclbcggbnbimaaa.treeAll
namespace Go.Proofs.Ytclbcggbnbimaaa
theorem treeAll_holds : Rows.TreeAllSaid := treeAll.proved
#print axioms treeAll_holds
end Go.Proofs.Ytclbcggbnbimaaa

/-
  No more is given than there is, nobody gets more than one wants, nothing is kept back that is wanted: the statement PurseWhole: the call returns true (every budget, whatever wants; what the table of weights holds is tied to the program's text).
-/
import Derived.Test.YtijjhjlopfbeiaaDoorRows
import Derived.Test.YtijjhjlopfbeiaaDoorTie
import Derived.Test.YtijjhjlopfbeiaaDoorCards
import Derived.SevenTiedAt
import Derived.LaidMore
import Derived.Stop.Joined
import Derived.Test.YtijjhjlopfbeiaaDoorLad
import Derived.WalkKit
import Derived.ProofKit
import Derived.OpenShut
import Derived.ShutString
import Derived.ChangeOld
import Derived.Below
import Derived.Carry
import Derived.Test.YtijjhjlopfbeiaaDoorOpn
import Derived.Test.YtijjhjlopfbeiaaDoorOpv
import Derived.Test.YtijjhjlopfbeiaaDoorPbe
namespace Go.Proofs.YtijjhjlopfbeiaaDoor.purseWhole
open Go.ChangeShapes Go.WideShapes Go.ChangeAt Go.RowKit
open Go.ChangeMaps (open_string shut_string)
set_option linter.unusedVariables false

theorem own : ownKnob Tryd.prog.godebug = none := by kernel_rfl
theorem laidOut : laidOutB Tryd.prog = true := by kernel_rfl

open Go.Deep

theorem sum_bounds {f : Nat → Int} {n : Nat} (h : ∀ i, i < n → 0 ≤ f i ∧ f i ≤ 65536) : ∀ k, k ≤ n → 0 ≤ Pu.sum f k ∧ Pu.sum f k ≤ 65536 * k
  | 0, _ => ⟨Int.le_refl _, Int.le_refl _⟩
  | k + 1, hk => by
    obtain ⟨a, b⟩ := sum_bounds h k (by omega)
    have := h k (by omega)
    have e : Pu.sum f (k + 1) = Pu.sum f k + f k := rfl
    omega
theorem whole {K : Nat → Wt} {n : Nat} {B : Int} {o : Nat → Nat} (h : Pu.Ord K n o) (h0 : 0 ≤ B) :
    (∀ p, p < n → 0 ≤ Pu.gets K n B o p ∧ Pu.gets K n B o p ≤ Pu.bnd (K p).b) ∧ Pu.sum (Pu.gets K n B o) n = min (Pu.sum (fun i => Pu.bnd (K i).b) n) B := by
  by_cases hz : n = 0
  · subst hz
    exact ⟨fun p hp => absurd hp (by omega), by show (0 : Int) = min 0 B; omega⟩
  · exact Pu.gets_whole h (by omega) h0

set_option maxRecDepth 100000 in
set_option maxHeartbeats 1000000 in
theorem walk (b : Int) (a : Option Addr) (n c : Nat) (K : Nat → Wt) (w : World) (hb : (Lit.int .u16 b).wf = true) (hK : WtsAt w a n K ∧ n ≤ c ∧ c ≤ maxLen) (hL : Laid w) :
    Calls Tryd.prog 4 #[.int .u16 b, .slice a n c] w fun e w' => e = .returned (.bool true) ∧ Below w.heap.size w w' := by
  obtain ⟨hb0, hb1⟩ := bounds_u16 hb
  obtain ⟨hK, hc1, hc2⟩ := hK
  have hB : Hid (Calls Tryd.prog 8 #[] w fun e w' => e = .returned (.bool true) ∧ Below w.heap.size w w') := begun21 w hL
  have HL : Hid (Laid w) := hL
  have HK : Hid (WtsAt w a n K) := hK
  have e1 : IntKind.i64.wrap b = b := w64 _ (by omega) (by omega)
  have hn64 : (n : Int) ≤ 9223372036854775807 := by unfold maxLen at hc2; omega
  clear hK hL hb hc1 hc2
  by_cases h40 : 40 < n
  · have i1 : (40 : Int) < (n : Int) := by omega
    clear h40
    go_enter Tryd.func4, Tryd.ntmps4
    go_wp2_with fail
    refine hB.out.mono ?_
    rintro e w1 ⟨rfl, b1⟩
    have HB : Hid (Below w.heap.size w w1) := b1
    clear b1 hB
    go_wp2
    go_ret
    exact ⟨rfl, HB.out⟩
  have i1 : decide ((40 : Int) < (n : Int)) = false := by simp; omega
  have hn : n ≤ 40 := by omega
  clear h40 hn64
  have eb : Pu.bnd b = b := Pu.bnd_is hb0 (by omega)
  go_enter Tryd.func4, Tryd.ntmps4
  go_wp2_with fail
  refine hB.out.mono ?_
  rintro e w1 ⟨rfl, b1⟩
  have HC : Hid (Calls Tryd.prog 9 #[.int .i64 b, .slice a n c] w1 (SplitIs w1 n K b)) := split_any n c a K b w1 (HK.out.grew b1) (by omega) (HL.out.grew b1)
  have HB1 : Hid (Below w.heap.size w w1) := b1
  clear b1 hB
  go_wp2_with fail
  refine HC.out.mono ?_
  rintro e w2 ⟨G, o, rfl, h1, h2, h3, h4, h5⟩
  rw [eb] at h4
  obtain ⟨q1, q2⟩ := whole h3 hb0
  generalize Pu.gets K n b o = g at *
  have HB : Hid (Below w.heap.size w w2) := HB1.out.trans (h5.mono HB1.out.size)
  have HG : Hid (IRow w2 G n g) := h4
  have HT : Hid ((∀ p, p < n → 0 ≤ g p ∧ g p ≤ Pu.bnd (K p).b) ∧ Pu.sum g n = min (Pu.sum (fun i => Pu.bnd (K i).b) n) b) := ⟨q1, q2⟩
  have nn : ((n : Int) == (n : Int)) = true := by simp
  clear h1 h2 h3 h4 h5 q1 q2 HC HB1 eb
  go_wp2_with fail
  go_loopw [6, 7, 8] (fun s t i wr => ∃ k : Nat, k ≤ n ∧ s = .int .i64 (Pu.sum g k) ∧ t = .int .i64 (Pu.sum (fun i => Pu.bnd (K i).b) k) ∧ i = .int .i64 (k : Int) ∧ Hid (wr = w2)) (fun _ _ i _ => n - (intOf i).toNat)
  case atStart => exact ⟨0, Nat.zero_le _, rfl, rfl, rfl, rfl⟩
  case round =>
    obtain ⟨k, hk, rfl, rfl, rfl, hw⟩ := hrel
    obtain rfl := hw.out
    clear hw
    have s0 := sum_bounds (f := g) (fun i hi => ⟨(HT.out.1 i hi).1, Int.le_trans (HT.out.1 i hi).2 (Pu.bnd_range _).2⟩) k hk
    have t0 := sum_bounds (f := fun i => Pu.bnd (K i).b) (n := n) (fun i _ => Pu.bnd_range _) k hk
    by_cases h : k < n
    · have i2 : (k : Int) < (n : Int) := by omega
      obtain ⟨ab, ao, rfl⟩ := HK.out.addr (by omega)
      obtain ⟨-, -, c2⟩ := (HK.out.grew HB.out).at k h
      have c3 := HG.out.cell k h
      obtain ⟨y1, y2⟩ := HT.out.1 k h
      have y3 := Pu.bnd_range (K k).b
      have es : Pu.sum g (k + 1) = Pu.sum g k + g k := rfl
      have et : Pu.sum (fun i => Pu.bnd (K i).b) (k + 1) = Pu.sum (fun i => Pu.bnd (K i).b) k + Pu.bnd (K k).b := rfl
      obtain ⟨m1, hm1⟩ : ∃ m, max (K k).b 0 = m := ⟨_, rfl⟩
      obtain ⟨m2, hm2⟩ : ∃ m, min m1 65536 = m := ⟨_, rfl⟩
      have e3 : Pu.bnd (K k).b = m2 := by unfold Pu.bnd; rw [hm1, hm2]
      rw [e3] at y2 y3 et
      generalize Pu.sum g k = s at *
      generalize Pu.sum (fun i => Pu.bnd (K i).b) k = t at *
      generalize g k = x at *
      generalize (K k).b = bk at *
      have r1 := fun ts ty W => max_run ts ty bk 0 m1 W hm1
      have r2 := fun ts ty W => min_run ts ty m1 65536 m2 W hm2
      obtain ⟨s', hs'⟩ : ∃ s', s + x = s' := ⟨_, rfl⟩
      obtain ⟨t', ht'⟩ : ∃ t', t + m2 = t' := ⟨_, rfl⟩
      rw [hs'] at es
      rw [ht'] at et
      have e4 : IntKind.i64.wrap s' = s' := w64 _ (by omega) (by omega)
      have e5 : IntKind.i64.wrap t' = t' := w64 _ (by omega) (by omega)
      have e6 : decide (x < 0) = false := by simp; omega
      have e7 : decide (m2 < x) = false := by simp; omega
      have HS : Hid (Pu.sum g (k + 1) = s') := es
      have HTT : Hid (Pu.sum (fun i => Pu.bnd (K i).b) (k + 1) = t') := et
      clear y1 y2 y3 s0 t0 es et hm1 hm2 e3
      go_wp2_with fail
      go_roundw
      case rel => exact ⟨k + 1, by omega, by rw [HS.out], by rw [HTT.out], by go_num, trivial⟩
      case measure => simp [intOf]; omega
    · obtain rfl : k = n := by omega
      have i2 : decide ((k : Int) < (k : Int)) = false := by simp
      have q2 := HT.out.2
      generalize Pu.sum g k = s at *
      generalize Pu.sum (fun i => Pu.bnd (K i).b) k = t at *
      have r1 := fun ts ty W => min_run ts ty t b s W q2.symm
      have e8 : (s == s) = true := by simp
      clear h q2 s0 t0
      go_wp2
      go_ret
      exact ⟨rfl, HB.out⟩

/-- The heap that the start leaves meets the row's condition. -/
theorem door_met (os : Os) (args : Array Value) : laidMetH Tryd.prog Rows.purseWholeRow.laid ((World.doorLaid Tryd.prog 14 os).forCall (fun _ _ => 0) ⟨#[], args, []⟩).memory :=
  laidMetH_of_parts3 (fuel := 8) (laidMet_of_run' 8 (by kernel_rfl) (by kernel_rfl)) (by kernel_rfl) (by kernel_rfl)

set_option maxRecDepth 100000 in
theorem lifted (os : Os) (started : os.Started) (H : Type) (enc : TypeId × Value → H) :
    ReturnsInHanded {} Tryd.checked os 4 .any (fun w args => (Rows.purseWholeSpec.pre enc Tryd.prog Tryd.f4 [] false w args ∧ laidMetH Tryd.prog Rows.purseWholeRow.laid w) ∧ sizedMet enc Tryd.prog Tryd.f4 (OpenSpec.ofChange Rows.purseWholeSpec) false w args)
      (Rows.purseWholeSpec.post enc Tryd.prog Tryd.f4 false true false false) := by
  refine returnsInHanded_of_change_and (C := Tryd.checked) (X := fun w _ => laidMetH Tryd.prog Rows.purseWholeRow.laid w) (fun _ _ _ hh h => h.of_heap hh) own started (by kernel_rfl) Tryd.func4
    (ChangeSpec.witness_shaped (enc := enc) (C := Tryd.checked) (os := os) (X := fun w _ => laidMetH Tryd.prog Rows.purseWholeRow.laid w) false (World.doorLaid Tryd.prog 14 os) #[.int .u16 0, .slice none 0 0] 8 rfl (World.shaped_of_RefB (by kernel_rfl) (by kernel_rfl)) (by kernel_rfl) (by kernel_rfl) (by kernel_rfl) (door_met os _)) ?_
  intro W base args ds gs before hval0 hW _ _ hL _
  rw [MakeChecks.laidMetH_plain _ _ _ (by kernel_rfl)] at hL
  have hLaid : Laid W := Laid.find (by kernel_rfl) (by kernel_rfl) Tryd.underlying54 Tryd.underlying3 (by kernel_rfl) (by kernel_rfl) hL
  have hval : ∀ (j : Nat) t v, Tryd.f4.params[j]? = some t → args[j]? = some v → Value.okWide Tryd.prog W .any base t v := hval0
  have hW' := hW
  obtain ⟨p, q, hA0, hV, rfl, hfz, hnd⟩ := hW
  have hA : DataW.TrodAll enc Tryd.prog W 0 (fun _ => true) true Tryd.f4.params.toList args.toList ds p := hA0
  rw [Tryd.params4] at hA hval
  obtain ⟨v0, vs0, d0, ds0, p0, q0, hargs, rfl, rfl, h0, r0⟩ := trodAll_cons hA
  obtain ⟨v1, vs1, d1, ds1, p1, q1, rfl, rfl, rfl, h1, r1⟩ := trodAll_cons r0
  obtain ⟨rfl, rfl, rfl⟩ := trodAll_nil r1
  obtain rfl : args = #[v0, v1] := by cases args; simp_all
  obtain ⟨rfl, rfl⟩ := trodVars_none hV
  obtain ⟨a0, rfl, rfl, rfl, w0⟩ := open_int Tryd.underlying27 (hval 0 27 v0 rfl rfl) h0
  obtain ⟨a1, len1, cap1, rfl⟩ := okWide_slice Tryd.underlying22 (hval 1 22 v1 rfl rfl)
  have k1 := h1
  have lt1 : ∀ x ∈ p1, x.block < W.heap.size := by obtain ⟨m, hm⟩ := k1; exact DataW.trod_lt m _ _ _ hm
  obtain ⟨K1, w1⟩ := open_wants h1
  clear hA0 hval0
  refine (walk a0 a1 len1 cap1 K1 W w0 w1 hLaid).mono fun e W' ⟨he, bel⟩ => ?_
  subst he
  exact ⟨_, rfl, _, _, _, [], _, [], hW', trodAll_mk1 (shut_bool Tryd.underlying4 _), (trodAll_cons_mk (shut_int Tryd.underlying27 w0) (trodAll_cons_mk (Below.trod laidOut (by kernel_rfl) (of_decide_eq_true (by kernel_rfl)) k1 bel lt1) trodAll_mk0)), rfl, bel.frame _, fun h => by cases h⟩

theorem over : Rows.purseWholeRow.holds Tryd.pinned (OpenSpec.ofChange Rows.purseWholeSpec) :=
  OpenClaim.holds_of_wide 4 Tryd.f4 rfl rfl rfl rfl rfl rfl rfl ⟨rfl, rfl, rfl, rfl, rfl⟩ rfl rfl rfl rfl rfl (by kernel_rfl) Tryd.func4 (by kernel_rfl)
    (of_decide_eq_true (by kernel_rfl)) (by unfold Func.isWrapper; first | (rw [if_pos (by decide +kernel)]; kernel_rfl) | (rw [if_neg (by decide +kernel)]; exact ⟨rfl, rfl⟩))
    (fun os started H enc _ => lifted os started H enc)

theorem card : Rows.PurseWholeCardSaid :=
  Claim7.holds_tied_plain_at .later [] [.data] true (true, "cc2e516006adc4ce4c94ac1e4352fb3ed5575d3a1732d1bd05b0ac818ef63213") false
    over (fun _ h => by cases h) (by kernel_rfl) (fun _ h => by cases h) purseWhole_row_tie rfl ⟨rfl, rfl⟩ (by kernel_rfl) rfl
    (fun f fn hf hfn => by
      obtain rfl : f = 4 := Option.some.inj ((show Tryd.prog.funcNamed Rows.purseWholeRow.func = some 4 by kernel_rfl).symm.trans hf) |>.symm
      obtain rfl : fn = Tryd.f4 := (Option.some.inj (Tryd.func4.symm.trans hfn)).symm
      exact ⟨by kernel_rfl, fun j t ht => by
        rw [Tryd.params4] at ht
        have hm : t ∈ [27, 22] := by simpa using Array.mem_of_getElem? ht
        have hall : ([27, 22].all fun u => !Tryd.prog.wantsStandIn u) = true := by kernel_rfl
        exact (show Tryd.prog.wantsStandIn t = false by simpa using List.all_eq_true.1 hall t hm)⟩)
    (by kernel_rfl)
end Go.Proofs.YtijjhjlopfbeiaaDoor.purseWhole
namespace Go.Proofs.YtijjhjlopfbeiaaDoor
theorem purseWhole_holds : Rows.PurseWholeCardSaid := purseWhole.card
#print axioms purseWhole_holds
end Go.Proofs.YtijjhjlopfbeiaaDoor

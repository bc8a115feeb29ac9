/-
  Who gets how much: the statement PurseAll: the call returns true (every budget, whatever wants; what the table of weights holds is tied to the program's text).
-/
import Derived.Test.YtijjhjlopfbeiaaDoorRows
import Derived.Test.YtijjhjlopfbeiaaDoorTie
import Derived.Test.YtijjhjlopfbeiaaDoorCards
import Derived.SevenTiedAt
import Derived.LaidMore
import Derived.Stop.Joined
import Derived.Test.YtijjhjlopfbeiaaDoorLad
import Derived.WalkKit
import Derived.ProofKit
import Derived.OpenShut
import Derived.ShutString
import Derived.ChangeOld
import Derived.Below
import Derived.Carry
import Derived.Test.YtijjhjlopfbeiaaDoorOpn
import Derived.Test.YtijjhjlopfbeiaaDoorOpv
import Derived.Test.YtijjhjlopfbeiaaDoorPbe
import Derived.Test.YtijjhjlopfbeiaaDoorPrt
import Derived.BigQuiet
namespace Go.Proofs.YtijjhjlopfbeiaaDoor.purseAll
open Go.ChangeShapes Go.WideShapes Go.ChangeAt Go.RowKit
open Go.ChangeMaps (open_string shut_string)
set_option linter.unusedVariables false

theorem own : ownKnob Tryd.prog.godebug = none := by kernel_rfl
theorem laidOut : laidOutB Tryd.prog = true := by kernel_rfl

open Go.Deep

theorem rsplit_both (n c : Nat) (a : Option Addr) (K : Nat → Wt) (B0 : Int) (o : Nat → Nat) (w : World) (hK : WtsAt w a n K) (hn : n ≤ 1000) (ho : Pu.Ord K n o) :
    Calls Tryd.prog 10 #[.int .i64 B0, .slice a n c] w (RSplitIs w n K B0 o) := by
  by_cases hz : n = 0
  · subst hz
    exact rsplit_zero c a K B0 o w
  · obtain ⟨ab, ao, rfl⟩ := hK.addr (by omega)
    exact rsplit_any n c ab ao K B0 o w hK hn (by omega) ho

set_option maxRecDepth 100000 in
set_option maxHeartbeats 1000000 in
theorem walk (b : Int) (a : Option Addr) (n c : Nat) (K : Nat → Wt) (w : World) (_hb : (Lit.int .i64 b).wf = true) (hK : WtsAt w a n K ∧ n ≤ c ∧ c ≤ maxLen) (hL : Laid w) :
    Calls Tryd.prog 3 #[.int .i64 b, .slice a n c] w fun e w' => e = .returned (.bool true) ∧ Below w.heap.size w w' := by
  obtain ⟨hK, hc1, hc2⟩ := hK
  have hB : Hid (Calls Tryd.prog 8 #[] w fun e w' => e = .returned (.bool true) ∧ Below w.heap.size w w') := begun21 w hL
  have HL : Hid (Laid w) := hL
  have HK : Hid (WtsAt w a n K) := hK
  have hn64 : (n : Int) ≤ 9223372036854775807 := by unfold maxLen at hc2; omega
  clear hK hL hc1 hc2 _hb
  by_cases h40 : 40 < n
  · have i1 : (40 : Int) < (n : Int) := by omega
    clear h40
    go_enter Tryd.func3, Tryd.ntmps3
    go_wp2_with fail
    refine hB.out.mono ?_
    rintro e w1 ⟨rfl, b1⟩
    have HB : Hid (Below w.heap.size w w1) := b1
    clear b1 hB
    go_wp2
    go_ret
    exact ⟨rfl, HB.out⟩
  have i1 : decide ((40 : Int) < (n : Int)) = false := by simp; omega
  have hn : n ≤ 40 := by omega
  clear h40 hn64
  go_enter Tryd.func3, Tryd.ntmps3
  go_wp2_with fail
  refine hB.out.mono ?_
  rintro e w1 ⟨rfl, b1⟩
  have HC : Hid (Calls Tryd.prog 9 #[.int .i64 b, .slice a n c] w1 (SplitIs w1 n K b)) := split_any n c a K b w1 (HK.out.grew b1) (by omega) (HL.out.grew b1)
  have HB1 : Hid (Below w.heap.size w w1) := b1
  clear b1 hB
  go_wp2_with fail
  refine HC.out.mono ?_
  rintro e w2 ⟨G, o, rfl, h1, h2, h3, h4, h5⟩
  have HB2 : Hid (Below w.heap.size w w2) := HB1.out.trans (h5.mono HB1.out.size)
  have HG : Hid (IRow w2 G n (Pu.gets K n (Pu.bnd b) o) ∧ G < w2.heap.size) := ⟨h4, h2⟩
  have HD : Hid (Calls Tryd.prog 10 #[.int .i64 b, .slice a n c] w2 (RSplitIs w2 n K b o)) := rsplit_both n c a K b o w2 (HK.out.grew HB2.out) (by omega) h3
  clear h1 h2 h3 h4 h5 HC HB1
  go_wp2_with fail
  refine HD.out.mono ?_
  rintro e w3 ⟨la, lc, rfl, h1, h2⟩
  have HB : Hid (Below w.heap.size w w3) := HB2.out.trans (h2.mono HB2.out.size)
  have HG3 : Hid (IRow w3 G n (Pu.gets K n (Pu.bnd b) o)) := HG.out.1.below h2 HG.out.2
  have HN : Hid (NumsAt .i64 w3 la n (Pu.gets K n (Pu.bnd b) o)) := h1
  generalize Pu.gets K n (Pu.bnd b) o = g at *
  clear h1 h2 HD HG HB2
  go_wp2_with fail
  go_loopw [7] (fun i wr => ∃ k : Nat, k ≤ n ∧ i = .int .i64 (k : Int) ∧ Hid (Same w3 wr)) (fun i _ => n - (intOf i).toNat)
  case atStart => exact ⟨0, Nat.zero_le _, rfl, Same.refl _⟩
  case round =>
    obtain ⟨k, hk, rfl, hs⟩ := hrel
    by_cases h : k < n
    · have i2 : (k : Int) < (n : Int) := by omega
      obtain ⟨ab, ao, rfl, hc⟩ := HN.out (by omega)
      have c1 := (hs.out.cell ⟨G, k, none⟩).trans (HG3.out.cell k h)
      have c2 := (hs.out.cell ⟨ab, ao + k, none⟩).trans (hc k h)
      clear hc
      generalize g k = v at *
      go_wp2_with fail
      go_quiet (fail)
      go_wp2_with fail
      go_roundw
      case rel => exact ⟨k + 1, by omega, by go_num, hs.out.trans ⟨_, rfl⟩⟩
      case measure => simp [intOf]; omega
    · obtain rfl : k = n := by omega
      have i2 : decide ((k : Int) < (k : Int)) = false := by simp
      have HE : Hid (Below w.heap.size w wr) := HB.out.trans (hs.out.below _)
      clear hs h
      go_wp2
      go_ret
      exact ⟨rfl, HE.out⟩

/-- The heap that the start leaves meets the row's condition. -/
theorem door_met (os : Os) (args : Array Value) : laidMetH Tryd.prog Rows.purseAllRow.laid ((World.doorLaid Tryd.prog 14 os).forCall (fun _ _ => 0) ⟨#[], args, []⟩).memory :=
  laidMetH_of_parts3 (fuel := 8) (laidMet_of_run' 8 (by kernel_rfl) (by kernel_rfl)) (by kernel_rfl) (by kernel_rfl)

set_option maxRecDepth 100000 in
theorem lifted (os : Os) (started : os.Started) (H : Type) (enc : TypeId × Value → H) :
    ReturnsInHanded {} Tryd.checked os 3 .any (fun w args => (Rows.purseAllSpec.pre enc Tryd.prog Tryd.f3 [] false w args ∧ laidMetH Tryd.prog Rows.purseAllRow.laid w) ∧ sizedMet enc Tryd.prog Tryd.f3 (OpenSpec.ofChange Rows.purseAllSpec) false w args)
      (Rows.purseAllSpec.post enc Tryd.prog Tryd.f3 false true false false) := by
  refine returnsInHanded_of_change_and (C := Tryd.checked) (X := fun w _ => laidMetH Tryd.prog Rows.purseAllRow.laid w) (fun _ _ _ hh h => h.of_heap hh) own started (by kernel_rfl) Tryd.func3
    (ChangeSpec.witness_shaped (enc := enc) (C := Tryd.checked) (os := os) (X := fun w _ => laidMetH Tryd.prog Rows.purseAllRow.laid w) false (World.doorLaid Tryd.prog 14 os) #[.int .i64 0, .slice none 0 0] 8 rfl (World.shaped_of_RefB (by kernel_rfl) (by kernel_rfl)) (by kernel_rfl) (by kernel_rfl) (by kernel_rfl) (door_met os _)) ?_
  intro W base args ds gs before hval0 hW _ _ hL _
  rw [MakeChecks.laidMetH_plain _ _ _ (by kernel_rfl)] at hL
  have hLaid : Laid W := Laid.find (by kernel_rfl) (by kernel_rfl) Tryd.underlying54 Tryd.underlying3 (by kernel_rfl) (by kernel_rfl) hL
  have hval : ∀ (j : Nat) t v, Tryd.f3.params[j]? = some t → args[j]? = some v → Value.okWide Tryd.prog W .any base t v := hval0
  have hW' := hW
  obtain ⟨p, q, hA0, hV, rfl, hfz, hnd⟩ := hW
  have hA : DataW.TrodAll enc Tryd.prog W 0 (fun _ => true) true Tryd.f3.params.toList args.toList ds p := hA0
  rw [Tryd.params3] at hA hval
  obtain ⟨v0, vs0, d0, ds0, p0, q0, hargs, rfl, rfl, h0, r0⟩ := trodAll_cons hA
  obtain ⟨v1, vs1, d1, ds1, p1, q1, rfl, rfl, rfl, h1, r1⟩ := trodAll_cons r0
  obtain ⟨rfl, rfl, rfl⟩ := trodAll_nil r1
  obtain rfl : args = #[v0, v1] := by cases args; simp_all
  obtain ⟨rfl, rfl⟩ := trodVars_none hV
  obtain ⟨a0, rfl, rfl, rfl, w0⟩ := open_int Tryd.underlying3 (hval 0 3 v0 rfl rfl) h0
  obtain ⟨a1, len1, cap1, rfl⟩ := okWide_slice Tryd.underlying22 (hval 1 22 v1 rfl rfl)
  have k1 := h1
  have lt1 : ∀ x ∈ p1, x.block < W.heap.size := by obtain ⟨m, hm⟩ := k1; exact DataW.trod_lt m _ _ _ hm
  obtain ⟨K1, w1⟩ := open_wants h1
  clear hA0 hval0
  refine (walk a0 a1 len1 cap1 K1 W w0 w1 hLaid).mono fun e W' ⟨he, bel⟩ => ?_
  subst he
  exact ⟨_, rfl, _, _, _, [], _, [], hW', trodAll_mk1 (shut_bool Tryd.underlying4 _), (trodAll_cons_mk (shut_int Tryd.underlying3 w0) (trodAll_cons_mk (Below.trod laidOut (by kernel_rfl) (of_decide_eq_true (by kernel_rfl)) k1 bel lt1) trodAll_mk0)), rfl, bel.frame _, fun h => by cases h⟩

theorem over : Rows.purseAllRow.holds Tryd.pinned (OpenSpec.ofChange Rows.purseAllSpec) :=
  OpenClaim.holds_of_wide 3 Tryd.f3 rfl rfl rfl rfl rfl rfl rfl ⟨rfl, rfl, rfl, rfl, rfl⟩ rfl rfl rfl rfl rfl (by kernel_rfl) Tryd.func3 (by kernel_rfl)
    (of_decide_eq_true (by kernel_rfl)) (by unfold Func.isWrapper; first | (rw [if_pos (by decide +kernel)]; kernel_rfl) | (rw [if_neg (by decide +kernel)]; exact ⟨rfl, rfl⟩))
    (fun os started H enc _ => lifted os started H enc)

theorem card : Rows.PurseAllCardSaid :=
  Claim7.holds_tied_plain_at .later [] [.data] true (true, "cc2e516006adc4ce4c94ac1e4352fb3ed5575d3a1732d1bd05b0ac818ef63213") false
    over (fun _ h => by cases h) (by kernel_rfl) (fun _ h => by cases h) purseAll_row_tie rfl ⟨rfl, rfl⟩ (by kernel_rfl) rfl
    (fun f fn hf hfn => by
      obtain rfl : f = 3 := Option.some.inj ((show Tryd.prog.funcNamed Rows.purseAllRow.func = some 3 by kernel_rfl).symm.trans hf) |>.symm
      obtain rfl : fn = Tryd.f3 := (Option.some.inj (Tryd.func3.symm.trans hfn)).symm
      exact ⟨by kernel_rfl, fun j t ht => by
        rw [Tryd.params3] at ht
        have hm : t ∈ [3, 22] := by simpa using Array.mem_of_getElem? ht
        have hall : ([3, 22].all fun u => !Tryd.prog.wantsStandIn u) = true := by kernel_rfl
        exact (show Tryd.prog.wantsStandIn t = false by simpa using List.all_eq_true.1 hall t hm)⟩)
    (by kernel_rfl)
end Go.Proofs.YtijjhjlopfbeiaaDoor.purseAll
namespace Go.Proofs.YtijjhjlopfbeiaaDoor
theorem purseAll_holds : Rows.PurseAllCardSaid := purseAll.card
#print axioms purseAll_holds
end Go.Proofs.YtijjhjlopfbeiaaDoor

/-
  Who wants alone gets all that there is, or all that is wanted: the statement PurseOne: the call returns true (every budget, every number that is wanted, every rank; what the table of weights holds is tied to the program's text).
-/
import Derived.Test.YtijjhjlopfbeiaaDoorRows
import Derived.Test.YtijjhjlopfbeiaaDoorTie
import Derived.Test.YtijjhjlopfbeiaaDoorCards
import Derived.SevenTiedAt
import Derived.LaidMore
import Derived.Stop.Joined
import Derived.Test.YtijjhjlopfbeiaaDoorLad
import Derived.WalkKit
import Derived.ProofKit
import Derived.OpenShut
import Derived.ShutString
import Derived.ChangeOld
import Derived.Below
import Derived.Carry
import Derived.Test.YtijjhjlopfbeiaaDoorOpn
import Derived.Test.YtijjhjlopfbeiaaDoorPbe
namespace Go.Proofs.YtijjhjlopfbeiaaDoor.purseOne
open Go.ChangeShapes Go.WideShapes Go.ChangeAt Go.RowKit
open Go.ChangeMaps (open_string shut_string)
set_option linter.unusedVariables false

theorem own : ownKnob Tryd.prog.godebug = none := by kernel_rfl
theorem laidOut : laidOutB Tryd.prog = true := by kernel_rfl

open Go.Deep

theorem alone (a : Wt) (B : Int) (h0 : 0 ≤ B) : Pu.gets (fun _ => a) 1 B (fun t => t) 0 = min B (Pu.bnd a.b) := by
  have ho : Pu.Ord (fun _ => a) 1 (fun t => t) := ⟨by decide, fun s t hs ht => absurd hs (by omega)⟩
  obtain ⟨-, h⟩ := Pu.gets_whole (B := B) ho (by decide) h0
  have e1 : Pu.sum (Pu.gets (fun _ => a) 1 B (fun t => t)) 1 = 0 + Pu.gets (fun _ => a) 1 B (fun t => t) 0 := rfl
  have e2 : Pu.sum (fun _ => Pu.bnd a.b) 1 = 0 + Pu.bnd a.b := rfl
  rw [e1, e2] at h
  omega

set_option maxRecDepth 100000 in
set_option maxHeartbeats 400000 in
theorem walk (b q r : Int) (w : World) (hb : (Lit.int .i32 b).wf = true) (hq : (Lit.int .i32 q).wf = true) (hr : (Lit.int .i8 r).wf = true) (hL : Laid w) :
    Calls Tryd.prog 7 #[.int .i32 b, .int .i32 q, .int .i8 r] w fun e w' => e = .returned (.bool true) ∧ Below w.heap.size w w' := by
  have k1 := bounds_i32 hb
  have k2 := bounds_i32 hq
  have k3 := bounds_i8 hr
  have e1 : IntKind.i64.wrap b = b := w64 _ (by omega) (by omega)
  have e2 : IntKind.i64.wrap q = q := w64 _ (by omega) (by omega)
  have e3 : IntKind.i64.wrap r = r := w64 _ (by omega) (by omega)
  obtain ⟨m1, hm1⟩ : ∃ m, max b 0 = m := ⟨_, rfl⟩
  obtain ⟨m2, hm2⟩ : ∃ m, max q 0 = m := ⟨_, rfl⟩
  obtain ⟨m, hm⟩ : ∃ m, min (min m1 65536) m2 = m := ⟨_, rfl⟩
  have r1 := fun ts ty W => max_run ts ty b 0 m1 W hm1
  have r2 := fun ts ty W => max_run ts ty q 0 m2 W hm2
  have r3 := fun ts ty W => min_run3 ts ty m1 65536 m2 m W hm
  have HG : Hid (Pu.gets (fun _ => ⟨0, r, q⟩) 1 (Pu.bnd b) (fun t => t) 0 = m) := by
    have := alone ⟨0, r, q⟩ (Pu.bnd b) (Pu.bnd_range b).1
    refine Eq.trans this ?_
    unfold Pu.bnd
    show min (min (max b 0) 65536) (min (max q 0) 65536) = m
    rw [hm1, hm2]
    omega
  have HL : Hid (Laid w) := hL
  have hB : Hid (Calls Tryd.prog 8 #[] w fun e w' => e = .returned (.bool true) ∧ Below w.heap.size w w') := begun21 w hL
  clear hm1 hm2 hm k1 k2 k3 hb hq hr hL
  go_enter Tryd.func7, Tryd.ntmps7
  go_wp2_with fail
  refine hB.out.mono ?_
  rintro e w1 ⟨rfl, b1⟩
  obtain ⟨S, hS⟩ : ∃ S, w1.heap.size = S := ⟨_, rfl⟩
  obtain ⟨x0, e0⟩ : ∃ x, w1.alloc (.cells #[.int .u32 0, .int .i64 r, .int .i64 q] 30) = x := ⟨_, rfl⟩
  have B0 : Below w1.heap.size w1 x0 := by rw [← e0]; exact (Below.refl _ _).alloc (Nat.le_refl _) _
  have HW : WtsAt x0 (some ⟨S, 0, none⟩) 1 (fun _ => ⟨0, r, q⟩) := fun _ => ⟨S, 0, rfl, fun i hi => by
    obtain rfl : i = 0 := by omega
    rw [← e0, ← hS]
    exact ⟨by rw [World.cell?_alloc_at _ _ _ _ rfl]; rfl, by rw [World.cell?_alloc_at _ _ _ _ rfl]; rfl, by rw [World.cell?_alloc_at _ _ _ _ rfl]; rfl⟩⟩
  have HC : Hid (Calls Tryd.prog 9 #[.int .i64 b, .slice (some ⟨S, 0, none⟩) 1 1] x0 fun e w' => ∃ G, e = .returned (.slice (some ⟨G, 0, none⟩) (1 : Nat) (1 : Nat)) ∧ x0.heap.size ≤ G ∧ G < w'.heap.size ∧ IRow w' G 1 (Pu.gets (fun _ => ⟨0, r, q⟩) 1 (Pu.bnd b) (fun t => t)) ∧ Below x0.heap.size x0 w') :=
    split_is 1 1 (some ⟨S, 0, none⟩) (fun _ => ⟨0, r, q⟩) b (fun t => t) x0 HW (by decide) ((HL.out.grew b1).grew B0) ⟨by decide, fun s t hs ht => absurd hs (by omega)⟩
  have HB : Hid (Below w.heap.size w x0) := b1.trans (B0.mono b1.size)
  have HZ : Hid (w.heap.size ≤ x0.heap.size) := HB.out.size
  clear b1 B0 HW hB
  go_wp2_with fail
  refine HC.out.mono ?_
  rintro e w2 ⟨G, rfl, h1, h2, h3, h4⟩
  have HE : Hid (Below w.heap.size w w2) := HB.out.trans (h4.mono HZ.out)
  have c0 := h3.cell 0 (by decide)
  rw [HG.out] at c0
  clear HC HB h1 h2 h3 h4 HG
  go_wp2
  go_ret
  exact ⟨rfl, HE.out⟩

/-- The heap that the start leaves meets the row's condition. -/
theorem door_met (os : Os) (args : Array Value) : laidMetH Tryd.prog Rows.purseOneRow.laid ((World.doorLaid Tryd.prog 14 os).forCall (fun _ _ => 0) ⟨#[], args, []⟩).memory :=
  laidMetH_of_parts3 (fuel := 8) (laidMet_of_run' 8 (by kernel_rfl) (by kernel_rfl)) (by kernel_rfl) (by kernel_rfl)

set_option maxRecDepth 100000 in
theorem lifted (os : Os) (started : os.Started) (H : Type) (enc : TypeId × Value → H) :
    ReturnsInHanded {} Tryd.checked os 7 .any (fun w args => (Rows.purseOneSpec.pre enc Tryd.prog Tryd.f7 [] false w args ∧ laidMetH Tryd.prog Rows.purseOneRow.laid w) ∧ sizedMet enc Tryd.prog Tryd.f7 (OpenSpec.ofChange Rows.purseOneSpec) false w args)
      (Rows.purseOneSpec.post enc Tryd.prog Tryd.f7 false true false false) := by
  refine returnsInHanded_of_change_and (C := Tryd.checked) (X := fun w _ => laidMetH Tryd.prog Rows.purseOneRow.laid w) (fun _ _ _ hh h => h.of_heap hh) own started (by kernel_rfl) Tryd.func7
    (ChangeSpec.witness_shaped (enc := enc) (C := Tryd.checked) (os := os) (X := fun w _ => laidMetH Tryd.prog Rows.purseOneRow.laid w) false (World.doorLaid Tryd.prog 14 os) #[.int .i32 0, .int .i32 0, .int .i8 0] 8 rfl (World.shaped_of_RefB (by kernel_rfl) (by kernel_rfl)) (by kernel_rfl) (by kernel_rfl) (by kernel_rfl) (door_met os _)) ?_
  intro W base args ds gs before hval0 hW _ _ hL _
  rw [MakeChecks.laidMetH_plain _ _ _ (by kernel_rfl)] at hL
  have hLaid : Laid W := Laid.find (by kernel_rfl) (by kernel_rfl) Tryd.underlying54 Tryd.underlying3 (by kernel_rfl) (by kernel_rfl) hL
  have hval : ∀ (j : Nat) t v, Tryd.f7.params[j]? = some t → args[j]? = some v → Value.okWide Tryd.prog W .any base t v := hval0
  have hW' := hW
  obtain ⟨p, q, hA0, hV, rfl, hfz, hnd⟩ := hW
  have hA : DataW.TrodAll enc Tryd.prog W 0 (fun _ => true) true Tryd.f7.params.toList args.toList ds p := hA0
  rw [Tryd.params7] at hA hval
  obtain ⟨v0, vs0, d0, ds0, p0, q0, hargs, rfl, rfl, h0, r0⟩ := trodAll_cons hA
  obtain ⟨v1, vs1, d1, ds1, p1, q1, rfl, rfl, rfl, h1, r1⟩ := trodAll_cons r0
  obtain ⟨v2, vs2, d2, ds2, p2, q2, rfl, rfl, rfl, h2, r2⟩ := trodAll_cons r1
  obtain ⟨rfl, rfl, rfl⟩ := trodAll_nil r2
  obtain rfl : args = #[v0, v1, v2] := by cases args; simp_all
  obtain ⟨rfl, rfl⟩ := trodVars_none hV
  obtain ⟨a0, rfl, rfl, rfl, w0⟩ := open_int Tryd.underlying21 (hval 0 21 v0 rfl rfl) h0
  obtain ⟨a1, rfl, rfl, rfl, w1⟩ := open_int Tryd.underlying21 (hval 1 21 v1 rfl rfl) h1
  obtain ⟨a2, rfl, rfl, rfl, w2⟩ := open_int Tryd.underlying35 (hval 2 35 v2 rfl rfl) h2
  clear hA0 hval0
  refine (walk a0 a1 a2 W w0 w1 w2 hLaid).mono fun e W' ⟨he, bel⟩ => ?_
  subst he
  exact ⟨_, rfl, _, _, _, [], _, [], hW', trodAll_mk1 (shut_bool Tryd.underlying4 _), (trodAll_cons_mk (shut_int Tryd.underlying21 w0) (trodAll_cons_mk (shut_int Tryd.underlying21 w1) (trodAll_cons_mk (shut_int Tryd.underlying35 w2) trodAll_mk0))), rfl, bel.frame _, fun h => by cases h⟩

theorem over : Rows.purseOneRow.holds Tryd.pinned (OpenSpec.ofChange Rows.purseOneSpec) :=
  OpenClaim.holds_of_wide 7 Tryd.f7 rfl rfl rfl rfl rfl rfl rfl ⟨rfl, rfl, rfl, rfl, rfl⟩ rfl rfl rfl rfl rfl (by kernel_rfl) Tryd.func7 (by kernel_rfl)
    (of_decide_eq_true (by kernel_rfl)) (by unfold Func.isWrapper; first | (rw [if_pos (by decide +kernel)]; kernel_rfl) | (rw [if_neg (by decide +kernel)]; exact ⟨rfl, rfl⟩))
    (fun os started H enc _ => lifted os started H enc)

theorem card : Rows.PurseOneCardSaid :=
  Claim7.holds_tied_plain_at .later [] [.data] true (true, "cc2e516006adc4ce4c94ac1e4352fb3ed5575d3a1732d1bd05b0ac818ef63213") false
    over (fun _ h => by cases h) (by kernel_rfl) (fun _ h => by cases h) purseOne_row_tie rfl ⟨rfl, rfl⟩ (by kernel_rfl) rfl
    (fun f fn hf hfn => by
      obtain rfl : f = 7 := Option.some.inj ((show Tryd.prog.funcNamed Rows.purseOneRow.func = some 7 by kernel_rfl).symm.trans hf) |>.symm
      obtain rfl : fn = Tryd.f7 := (Option.some.inj (Tryd.func7.symm.trans hfn)).symm
      exact ⟨by kernel_rfl, fun j t ht => by
        rw [Tryd.params7] at ht
        have hm : t ∈ [21, 21, 35] := by simpa using Array.mem_of_getElem? ht
        have hall : ([21, 21, 35].all fun u => !Tryd.prog.wantsStandIn u) = true := by kernel_rfl
        exact (show Tryd.prog.wantsStandIn t = false by simpa using List.all_eq_true.1 hall t hm)⟩)
    (by kernel_rfl)
end Go.Proofs.YtijjhjlopfbeiaaDoor.purseOne
namespace Go.Proofs.YtijjhjlopfbeiaaDoor
theorem purseOne_holds : Rows.PurseOneCardSaid := purseOne.card
#print axioms purseOne_holds
end Go.Proofs.YtijjhjlopfbeiaaDoor

/-
  Of two that want alike the one that matters more never gets less, nor, of one rank, the earlier one: the statement PurseRanks: the call returns true (every budget, every number that is wanted, whatever ranks; what the table of weights holds is tied to the program's text).
-/
import Derived.Test.YtijjhjlopfbeiaaDoorRows
import Derived.Test.YtijjhjlopfbeiaaDoorTie
import Derived.Test.YtijjhjlopfbeiaaDoorCards
import Derived.SevenTiedAt
import Derived.LaidMore
import Derived.Stop.Joined
import Derived.Test.YtijjhjlopfbeiaaDoorLad
import Derived.WalkKit
import Derived.ProofKit
import Derived.OpenShut
import Derived.ShutString
import Derived.ChangeOld
import Derived.Below
import Derived.Carry
import Derived.Test.YtijjhjlopfbeiaaDoorOpn
import Derived.Test.YtijjhjlopfbeiaaDoorPbe
import Derived.Test.YtijjhjlopfbeiaaDoorWor
import Derived.BigQuiet
namespace Go.Proofs.YtijjhjlopfbeiaaDoor.purseRanks
open Go.ChangeShapes Go.WideShapes Go.ChangeAt Go.RowKit
open Go.ChangeMaps (open_string shut_string)
set_option linter.unusedVariables false

theorem own : ownKnob Tryd.prog.godebug = none := by kernel_rfl
theorem laidOut : laidOutB Tryd.prog = true := by kernel_rfl

open Go.Deep

/-- What the statement wants for whom. -/
def wants (x : Nat → Nat) (q : Int) (i : Nat) : Wt := ⟨(i : Int), ((x i % 4 : Nat) : Int), q⟩
theorem ranked {x : Nat → Nat} {q B : Int} {n : Nat} {o : Nat → Nat} (h : Pu.Ord (wants x q) n o) (h0 : 0 ≤ B) {i k : Nat} (hi : i < n) (hk : k < n)
    (hik : ((x i % 4 : Nat) : Int) < ((x k % 4 : Nat) : Int) ∨ ((x i % 4 : Nat) : Int) = ((x k % 4 : Nat) : Int) ∧ i < k) : Pu.gets (wants x q) n B o k ≤ Pu.gets (wants x q) n B o i := by
  refine Pu.gets_first h (by omega) h0 hi hk ?_ rfl
  show ((x i % 4 : Nat) : Int) < ((x k % 4 : Nat) : Int) ∨ ((x i % 4 : Nat) : Int) = ((x k % 4 : Nat) : Int) ∧ ((i : Int) < (k : Int) ∨ _)
  rcases hik with h | ⟨h, g⟩
  · exact .inl h
  · exact .inr ⟨h, .inl (by omega)⟩
theorem four (y : Nat) (hy : y < 256) : ∃ R : Nat, y % 4 = R ∧ (y : Int).tmod 4 = (R : Int) ∧ (y : Int) % 4 = (R : Int) ∧ IntKind.u8.wrap (R : Int) = (R : Int) ∧ IntKind.i64.wrap (R : Int) = (R : Int) := by
  refine ⟨y % 4, rfl, ?_, by omega, ?_, w64 _ (by omega) (by omega)⟩
  · rw [Int.tmod_eq_emod_of_nonneg (by omega)]; omega
  · simp only [IntKind.wrap, IntKind.bits, IntKind.signed]; simp; omega

set_option maxRecDepth 100000 in
set_option maxHeartbeats 1000000 in
theorem walk (b q : Int) (a : Option Addr) (n c : Nat) (x : Nat → Nat) (w : World) (hb : (Lit.int .u16 b).wf = true) (hq : (Lit.int .u16 q).wf = true) (hx : BytesAt w a n x ∧ n ≤ c ∧ c ≤ maxLen) (hL : Laid w) :
    Calls Tryd.prog 5 #[.int .u16 b, .int .u16 q, .slice a n c] w fun e w' => e = .returned (.bool true) ∧ Below w.heap.size w w' := by
  obtain ⟨hb0, hb1⟩ := bounds_u16 hb
  obtain ⟨hq0, hq1⟩ := bounds_u16 hq
  obtain ⟨hx, hc1, hc2⟩ := hx
  have hB : Hid (Calls Tryd.prog 8 #[] w fun e w' => e = .returned (.bool true) ∧ Below w.heap.size w w') := begun21 w hL
  have HL : Hid (Laid w) := hL
  have HX : Hid (BytesAt w a n x) := hx
  have e1 : IntKind.i64.wrap b = b := w64 _ (by omega) (by omega)
  have e2 : IntKind.i64.wrap q = q := w64 _ (by omega) (by omega)
  have hn64 : (n : Int) ≤ 9223372036854775807 := by unfold maxLen at hc2; omega
  clear hx hL hb hq hc1 hc2
  by_cases h20 : 20 < n
  · have i1 : (20 : Int) < (n : Int) := by omega
    clear h20
    go_enter Tryd.func5, Tryd.ntmps5
    go_wp2_with fail
    refine hB.out.mono ?_
    rintro e w1 ⟨rfl, b1⟩
    have HB : Hid (Below w.heap.size w w1) := b1
    clear b1 hB
    go_wp2
    go_ret
    exact ⟨rfl, HB.out⟩
  have i1 : decide ((20 : Int) < (n : Int)) = false := by simp; omega
  have hn : n ≤ 20 := by omega
  clear h20 hn64
  have eb : Pu.bnd b = b := Pu.bnd_is hb0 (by omega)
  obtain ⟨S, hS⟩ : ∃ S, w.heap.size = S := ⟨_, rfl⟩
  have HS : Hid (w.heap.size = S) := hS
  have hS0 : Hid (0 < S) := by rw [← hS]; exact HL.out.lt
  rw [hS] at hB
  rw [hS]
  clear hS
  go_enter Tryd.func5, Tryd.ntmps5
  go_wp2_with fail
  refine hB.out.mono ?_
  rintro e w1 ⟨rfl, b1⟩
  have HB1 : Hid (Below S w w1) := b1
  clear b1 hB
  go_wp2_with fail
  go_loopw [7, 8] (fun v i wr => ∃ (k : Nat) (la : Option Addr) (lc : Nat), v = .slice la k lc ∧ i = .int .i64 (k : Int) ∧ k ≤ n ∧ Hid (Wor wr S (.slice la k lc) k (wants x q)) ∧ Hid (Below S w wr)) (fun _ i _ => n - (intOf i).toNat)
  case atStart => exact ⟨0, none, 0, rfl, rfl, Nat.zero_le _, Wor.nil _ _ _, HB1⟩
  case round =>
    obtain ⟨k, la, lc, rfl, rfl, hk, hw, hbw⟩ := hrel
    clear HB1
    by_cases h : k < n
    · have i2 : (k : Int) < (n : Int) := by omega
      obtain ⟨ab, ao, rfl⟩ := bytes_some HX.out (by omega)
      have c0 := bytes_cell (HX.out.below hbw.out (by rw [HS.out]; exact Nat.le_refl _)) k h
      obtain ⟨R, hR, t1, t2, t3, t4⟩ := four (x k) (HX.out.lt k h)
      have HR : Hid (x k % 4 = R) := hR
      have t5 : IntKind.u32.wrap (k : Int) = (k : Int) := by simp only [IntKind.wrap, IntKind.bits, IntKind.signed]; simp; omega
      obtain ⟨z, ez⟩ : ∃ y, wr.alloc (.cells #[.int .u32 (k : Int), .int .i64 (R : Int), .int .i64 q] 30) = y := ⟨_, rfl⟩
      have Bz : Below wr.heap.size wr z := by rw [← ez]; exact (Below.refl _ _).alloc (Nat.le_refl _) _
      have Nz : WtAt z wr.heap.size ⟨(k : Int), (R : Int), q⟩ := by rw [← ez]; exact WtAt.made wr _ ⟨(k : Int), (R : Int), q⟩
      have sz : S ≤ wr.heap.size := by have := hbw.out.size; have := HS.out; omega
      obtain ⟨v', z2, happ, O2, gr, -⟩ := (hw.out.grew Bz).push 22 Nz (by omega) (by have := Bz.size; omega)
      have HW2 : Hid (Wor z2 S v' (k + 1) (wants x q)) := O2.congr fun i hi => by
        by_cases g : i < k
        · rw [if_pos g]
        · obtain rfl : i = k := by omega
          rw [if_neg g]
          unfold wants
          rw [HR.out]
      have HB2 : Hid (Below S w z2) := (hbw.out.trans (Bz.mono sz)).trans ((hw.out.grew Bz).grown gr (by have := Bz.size; omega))
      obtain ⟨la', lc', rfl, -⟩ := O2.any
      generalize hk1 : k + 1 = k1 at *
      clear hR Bz Nz sz O2 gr hw hbw
      go_wp2_with (at_builtin; refine Go.Lib.wpList_append_run _ rfl (.tmp 23) (.tmp 35) 22 22 rfl _ _ rfl rfl _ _ happ ?_)
      subst hk1
      go_roundw
      case rel => exact ⟨k + 1, la', lc', rfl, by go_num, by omega, HW2, HB2⟩
      case measure => simp [intOf]; omega
    · obtain rfl : k = n := by omega
      have i2 : decide ((k : Int) < (k : Int)) = false := by simp
      clear h
      obtain ⟨la', lc', ev, HWt, -⟩ := hw.out.any
      cases ev
      have hLw : Laid wr := HL.out.below hbw.out (by rw [← HS.out]; exact HL.out.lt)
      have HC : Hid (Calls Tryd.prog 9 #[.int .i64 b, .slice la k lc] wr (SplitIs wr k (wants x q) b)) := split_any k lc la (wants x q) b wr HWt (by omega) hLw
      have HWr : Hid (WtsAt wr la k (wants x q)) := HWt
      have HBw : Hid (Below S w wr) := hbw.out
      have sz : Hid (S ≤ wr.heap.size) := by have := hbw.out.size; have := HS.out; show S ≤ _; omega
      clear HWt hLw hw hbw
      go_wp2_with fail
      refine HC.out.mono ?_
      rintro e w2 ⟨G, o, rfl, h1, h2, h3, h4, h5⟩
      rw [eb] at h4
      have HF : Hid (∀ i j, i < k → j < k → ((x i % 4 : Nat) : Int) < ((x j % 4 : Nat) : Int) ∨ ((x i % 4 : Nat) : Int) = ((x j % 4 : Nat) : Int) ∧ i < j → Pu.gets (wants x q) k b o j ≤ Pu.gets (wants x q) k b o i) := fun i j hi hj hij => ranked h3 hb0 hi hj hij
      generalize Pu.gets (wants x q) k b o = g at *
      have HG : Hid (IRow w2 G k g) := h4
      have HW2 : Hid (WtsAt w2 la k (wants x q)) := HWr.out.grew h5
      have HB2 : Hid (Below S w w2) := HBw.out.trans (h5.mono sz.out)
      have HZ : Hid (S ≤ w2.heap.size) := Nat.le_trans sz.out h5.size
      have nn : ((k : Int) == (k : Int)) = true := by simp
      clear h1 h2 h3 h4 h5 HC HWr HBw sz eb i2
      go_wp2_with fail
      go_loopw [10] (fun i wr => ∃ p : Nat, p ≤ k ∧ i = .int .i64 (p : Int) ∧ Hid (Same w2 wr)) (fun i _ => k - (intOf i).toNat)
      case atStart => exact ⟨0, Nat.zero_le _, rfl, Same.refl _⟩
      case round =>
        obtain ⟨p, hp, rfl, hs⟩ := hrel
        by_cases h : p < k
        · have i2 : (p : Int) < (k : Int) := by omega
          generalize wr = wo at *
          go_wp2_with fail
          go_loopw [11] (fun i wr => ∃ r : Nat, r ≤ k ∧ i = .int .i64 (r : Int) ∧ Hid (Same w2 wr)) (fun i _ => k - (intOf i).toNat)
          case atStart => exact ⟨0, Nat.zero_le _, rfl, hs⟩
          case round =>
            obtain ⟨r, hr, rfl, hs2⟩ := hrel
            by_cases hrk : r < k
            · have i3 : (r : Int) < (k : Int) := by omega
              obtain ⟨lb, lo, rfl⟩ := HW2.out.addr (by omega)
              have hW := HW2.out.grew (hs2.out.below _)
              have c1 : wr.cell? ⟨lb, lo + p * 3 + 1, none⟩ = some (.int .i64 ((x p % 4 : Nat) : Int)) := (hW.at p h).2.1
              have c2 : wr.cell? ⟨lb, lo + r * 3 + 1, none⟩ = some (.int .i64 ((x r % 4 : Nat) : Int)) := (hW.at r hrk).2.1
              have c3 := (hs2.out.cell ⟨G, p, none⟩).trans (HG.out.cell p h)
              have c4 := (hs2.out.cell ⟨G, r, none⟩).trans (HG.out.cell r hrk)
              have F := HF.out p r h hrk
              clear hW
              generalize ((x p % 4 : Nat) : Int) = rp at *
              generalize ((x r % 4 : Nat) : Int) = rr at *
              generalize g p = gp at *
              generalize g r = gr at *
              by_cases f1 : rp < rr
              · have j1 : decide (rp < rr) = true := decide_eq_true f1
                have j4 : decide (gp < gr) = false := by have := F (.inl f1); simp; omega
                clear F
                go_wp2_with fail
                go_quiet (fail)
                go_wp2_with fail
                go_roundw
                case rel => exact ⟨r + 1, by omega, by go_num, hs2.out.trans ⟨_, rfl⟩⟩
                case measure => simp [intOf]; omega
              · have j1 : decide (rp < rr) = false := decide_eq_false f1
                by_cases f2 : rp = rr
                · have j2 : (rp == rr) = true := by simp [f2]
                  by_cases f3 : p < r
                  · have j3 : decide ((p : Int) < (r : Int)) = true := by simp; omega
                    have j4 : decide (gp < gr) = false := by have := F (.inr ⟨f2, f3⟩); simp; omega
                    clear F f1 f2
                    go_wp2_with fail
                    go_quiet (fail)
                    go_wp2_with fail
                    go_roundw
                    case rel => exact ⟨r + 1, by omega, by go_num, hs2.out.trans ⟨_, rfl⟩⟩
                    case measure => simp [intOf]; omega
                  · have j3 : decide ((p : Int) < (r : Int)) = false := by simp; omega
                    clear F f1 f2
                    go_wp2_with fail
                    go_quiet (fail)
                    go_wp2_with fail
                    go_roundw
                    case rel => exact ⟨r + 1, by omega, by go_num, hs2.out.trans ⟨_, rfl⟩⟩
                    case measure => simp [intOf]; omega
                · have j2 : (rp == rr) = false := by simpa using f2
                  clear F f1 f2
                  go_wp2_with fail
                  go_quiet (fail)
                  go_wp2_with fail
                  go_roundw
                  case rel => exact ⟨r + 1, by omega, by go_num, hs2.out.trans ⟨_, rfl⟩⟩
                  case measure => simp [intOf]; omega
            · obtain rfl : r = k := by omega
              have i3 : decide ((r : Int) < (r : Int)) = false := by simp
              go_wp2_with fail
              go_roundw
              case rel => exact ⟨p + 1, by omega, by go_num, hs2⟩
              case measure => simp [intOf]; omega
        · obtain rfl : p = k := by omega
          have i2 : decide ((p : Int) < (p : Int)) = false := by simp
          have HB3 : Hid (Below S w wr) := HB2.out.trans (hs.out.below _)
          have HZ3 : Hid (S ≤ wr.heap.size) := by rw [hs.out.size]; exact HZ.out
          have HN : Hid (Calls Tryd.prog 9 #[.int .i64 b, .slice none 0 0] wr (SplitIs wr 0 (wants x q) b)) := split_any 0 0 none (wants x q) b wr (WtsAt.nil _ _ _) (by omega) (HL.out.below HB3.out (by rw [← HS.out]; exact HL.out.lt))
          clear HW2 HG hs h
          go_wp2_with fail
          refine HN.out.mono ?_
          rintro e w4 ⟨G4, o4, rfl, -, -, -, -, b4⟩
          have HE : Hid (Below S w w4) := HB3.out.trans (b4.mono HZ3.out)
          clear b4 HN
          go_wp2
          go_ret
          exact ⟨rfl, HE.out⟩

/-- The heap that the start leaves meets the row's condition. -/
theorem door_met (os : Os) (args : Array Value) : laidMetH Tryd.prog Rows.purseRanksRow.laid ((World.doorLaid Tryd.prog 14 os).forCall (fun _ _ => 0) ⟨#[], args, []⟩).memory :=
  laidMetH_of_parts3 (fuel := 8) (laidMet_of_run' 8 (by kernel_rfl) (by kernel_rfl)) (by kernel_rfl) (by kernel_rfl)

set_option maxRecDepth 100000 in
theorem lifted (os : Os) (started : os.Started) (H : Type) (enc : TypeId × Value → H) :
    ReturnsInHanded {} Tryd.checked os 5 .any (fun w args => (Rows.purseRanksSpec.pre enc Tryd.prog Tryd.f5 [] false w args ∧ laidMetH Tryd.prog Rows.purseRanksRow.laid w) ∧ sizedMet enc Tryd.prog Tryd.f5 (OpenSpec.ofChange Rows.purseRanksSpec) false w args)
      (Rows.purseRanksSpec.post enc Tryd.prog Tryd.f5 false true false false) := by
  refine returnsInHanded_of_change_and (C := Tryd.checked) (X := fun w _ => laidMetH Tryd.prog Rows.purseRanksRow.laid w) (fun _ _ _ hh h => h.of_heap hh) own started (by kernel_rfl) Tryd.func5
    (ChangeSpec.witness_shaped (enc := enc) (C := Tryd.checked) (os := os) (X := fun w _ => laidMetH Tryd.prog Rows.purseRanksRow.laid w) false (World.doorLaid Tryd.prog 14 os) #[.int .u16 0, .int .u16 0, .slice none 0 0] 8 rfl (World.shaped_of_RefB (by kernel_rfl) (by kernel_rfl)) (by kernel_rfl) (by kernel_rfl) (by kernel_rfl) (door_met os _)) ?_
  intro W base args ds gs before hval0 hW _ _ hL _
  rw [MakeChecks.laidMetH_plain _ _ _ (by kernel_rfl)] at hL
  have hLaid : Laid W := Laid.find (by kernel_rfl) (by kernel_rfl) Tryd.underlying54 Tryd.underlying3 (by kernel_rfl) (by kernel_rfl) hL
  have hval : ∀ (j : Nat) t v, Tryd.f5.params[j]? = some t → args[j]? = some v → Value.okWide Tryd.prog W .any base t v := hval0
  have hW' := hW
  obtain ⟨p, q, hA0, hV, rfl, hfz, hnd⟩ := hW
  have hA : DataW.TrodAll enc Tryd.prog W 0 (fun _ => true) true Tryd.f5.params.toList args.toList ds p := hA0
  rw [Tryd.params5] at hA hval
  obtain ⟨v0, vs0, d0, ds0, p0, q0, hargs, rfl, rfl, h0, r0⟩ := trodAll_cons hA
  obtain ⟨v1, vs1, d1, ds1, p1, q1, rfl, rfl, rfl, h1, r1⟩ := trodAll_cons r0
  obtain ⟨v2, vs2, d2, ds2, p2, q2, rfl, rfl, rfl, h2, r2⟩ := trodAll_cons r1
  obtain ⟨rfl, rfl, rfl⟩ := trodAll_nil r2
  obtain rfl : args = #[v0, v1, v2] := by cases args; simp_all
  obtain ⟨rfl, rfl⟩ := trodVars_none hV
  obtain ⟨a0, rfl, rfl, rfl, w0⟩ := open_int Tryd.underlying27 (hval 0 27 v0 rfl rfl) h0
  obtain ⟨a1, rfl, rfl, rfl, w1⟩ := open_int Tryd.underlying27 (hval 1 27 v1 rfl rfl) h1
  obtain ⟨a2, len2, cap2, rfl⟩ := okWide_slice Tryd.underlying32 (hval 2 32 v2 rfl rfl)
  have k2 := h2
  have lt2 : ∀ x ∈ p2, x.block < W.heap.size := by obtain ⟨m, hm⟩ := k2; exact DataW.trod_lt m _ _ _ hm
  obtain ⟨x2, w2⟩ : ∃ x, BytesAt W a2 len2 x ∧ len2 ≤ cap2 ∧ cap2 ≤ maxLen := open_bytes Tryd.underlying32 Tryd.underlying5 (by kernel_rfl) h2
  clear hA0 hval0
  refine (walk a0 a1 a2 len2 cap2 x2 W w0 w1 w2 hLaid).mono fun e W' ⟨he, bel⟩ => ?_
  subst he
  exact ⟨_, rfl, _, _, _, [], _, [], hW', trodAll_mk1 (shut_bool Tryd.underlying4 _), (trodAll_cons_mk (shut_int Tryd.underlying27 w0) (trodAll_cons_mk (shut_int Tryd.underlying27 w1) (trodAll_cons_mk (Below.trod laidOut (by kernel_rfl) (of_decide_eq_true (by kernel_rfl)) k2 bel lt2) trodAll_mk0))), rfl, bel.frame _, fun h => by cases h⟩

theorem over : Rows.purseRanksRow.holds Tryd.pinned (OpenSpec.ofChange Rows.purseRanksSpec) :=
  OpenClaim.holds_of_wide 5 Tryd.f5 rfl rfl rfl rfl rfl rfl rfl ⟨rfl, rfl, rfl, rfl, rfl⟩ rfl rfl rfl rfl rfl (by kernel_rfl) Tryd.func5 (by kernel_rfl)
    (of_decide_eq_true (by kernel_rfl)) (by unfold Func.isWrapper; first | (rw [if_pos (by decide +kernel)]; kernel_rfl) | (rw [if_neg (by decide +kernel)]; exact ⟨rfl, rfl⟩))
    (fun os started H enc _ => lifted os started H enc)

theorem card : Rows.PurseRanksCardSaid :=
  Claim7.holds_tied_plain_at .later [] [.data] true (true, "cc2e516006adc4ce4c94ac1e4352fb3ed5575d3a1732d1bd05b0ac818ef63213") false
    over (fun _ h => by cases h) (by kernel_rfl) (fun _ h => by cases h) purseRanks_row_tie rfl ⟨rfl, rfl⟩ (by kernel_rfl) rfl
    (fun f fn hf hfn => by
      obtain rfl : f = 5 := Option.some.inj ((show Tryd.prog.funcNamed Rows.purseRanksRow.func = some 5 by kernel_rfl).symm.trans hf) |>.symm
      obtain rfl : fn = Tryd.f5 := (Option.some.inj (Tryd.func5.symm.trans hfn)).symm
      exact ⟨by kernel_rfl, fun j t ht => by
        rw [Tryd.params5] at ht
        have hm : t ∈ [27, 27, 32] := by simpa using Array.mem_of_getElem? ht
        have hall : ([27, 27, 32].all fun u => !Tryd.prog.wantsStandIn u) = true := by kernel_rfl
        exact (show Tryd.prog.wantsStandIn t = false by simpa using List.all_eq_true.1 hall t hm)⟩)
    (by kernel_rfl)
end Go.Proofs.YtijjhjlopfbeiaaDoor.purseRanks
namespace Go.Proofs.YtijjhjlopfbeiaaDoor
theorem purseRanks_holds : Rows.PurseRanksCardSaid := purseRanks.card
#print axioms purseRanks_holds
end Go.Proofs.YtijjhjlopfbeiaaDoor

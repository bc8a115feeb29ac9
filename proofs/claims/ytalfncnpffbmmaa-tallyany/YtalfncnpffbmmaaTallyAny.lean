/-
  Law 16: in whatever order packets come within one report, it tells the same.
-/
import Derived.Test.YtalfncnpffbmmaaRows
import Derived.WalkKit
import Derived.ProofKit
import Derived.OpenShut
import Derived.ShutString
import Derived.ChangeOld
import Derived.Below
import Derived.Carry
import Derived.Test.YtalfncnpffbmmaaOpn
import Derived.Test.YtalfncnpffbmmaaOpb
import Derived.Test.YtalfncnpffbmmaaTm1
namespace Go.Proofs.Ytalfncnpffbmmaa.tallyAny
open Go.ChangeShapes Go.WideShapes Go.ChangeAt Go.RowKit
open Go.ChangeMaps (open_string shut_string)
set_option linter.unusedVariables false

theorem own : ownKnob Try.prog.godebug = none := by kernel_rfl
theorem laidOut : laidOutB Try.prog = true := by kernel_rfl

open Go.Deep

set_option maxRecDepth 100000 in
set_option maxHeartbeats 2000000 in
theorem walk (a0 : Option Addr) (N cap : Nat) (C : Nat → Bool) (z : Int) (w : World) (h0 : FlagsAt w a0 N C ∧ N ≤ cap ∧ cap ≤ maxLen) (h1 : (Lit.int .u8 z).wf = true) :
    Calls Try.prog 3 #[.slice a0 N cap, .int .u8 z] w fun e w' => e = .returned (.bool true) ∧ Below w.heap.size w w' := by
  have hz := bounds_u8 h1
  obtain ⟨t, rfl⟩ : ∃ t : Nat, z = (t : Int) := ⟨z.toNat, by omega⟩
  have ht : t < 256 := by omega
  have HF : Hid (FlagsAt w a0 N C) := h0.1
  clear h0 h1 hz
  go_enter Try.func3, Try.ntmps3
  go_wp2_with fail
  refine (begun16 w).mono ?_
  rintro e w1 ⟨rfl, b1⟩
  have HB1 : Hid (Below w.heap.size w w1) := b1
  have HF1 : Hid (FlagsAt w1 a0 N C) := HF.out.below b1 (Nat.le_refl _)
  clear HF b1
  by_cases hN : 20 < N
  · have i1 : (20 : Int) < (N : Int) := by omega
    go_wp2
    go_ret
    exact ⟨rfl, HB1.out⟩
  · have i1 : decide ((20 : Int) < (N : Int)) = false := by simp; omega
    have hN2 : N ≤ 20 := by omega
    clear hN
    go_wp2_with fail
    refine (tnew_any w1).mono ?_
    rintro e w2 ⟨ga, ea, ca, rfl, Na, b2, za1, za2, za3⟩
    have HA2 : Hid (TlNew w2 ga ea ca ∧ Below w1.heap.size w1 w2 ∧ w1.heap.size ≤ ga ∧ w1.heap.size ≤ ea ∧ w1.heap.size ≤ ca) := ⟨Na, b2, za1, za2, za3⟩
    clear Na b2 za1 za2 za3
    go_wp2_with fail
    refine (tnew_any w2).mono ?_
    rintro e w3 ⟨gb, eb, cb, rfl, Nb, b3, zb1, zb2, zb3⟩
    have P3 : Pair0 w1 ga gb w3 := by
      obtain ⟨Na, b2, za1, za2, za3⟩ := HA2.out
      have l1 := Na.G.lt
      have l2 := Na.ext.lt
      have l3 := Na.hal.lt
      exact ⟨ea, ca, eb, cb, Na.block (b3.block _ l1) (b3.block _ l2) (b3.block _ l3), Nb, fun R hR => by rcases hR with h | h | h <;> omega, b2.trans (b3.mono b2.size)⟩
    have HP3 : Hid (Pair0 w1 ga gb w3) := P3
    clear Nb b3 zb1 zb2 zb3 P3 HA2
    go_wp2_with fail
    refine (pair_first HP3.out).mono ?_
    rintro e w4 ⟨rfl, P4⟩
    have HP4 : Hid (Pair1 w1 ga gb w4) := P4
    clear P4 HP3
    go_wp2_with fail
    refine (pair_second HP4.out).mono ?_
    rintro e w5 ⟨rfl, P5⟩
    have HP5 : Hid (Pair w1 ga gb 1 1 tl0 tl0 w5) := P5
    clear P5 HP4
    go_wp2_with fail
    go_loopw [7, 8, 9, 10, 11] (fun s7 s8 s9 s10 s11 wr => ∃ n row most top i : Nat, s7 = .int .i64 n ∧ s8 = .int .i64 row ∧ s9 = .int .i64 most ∧ s10 = .int .i64 top ∧ s11 = .int .i64 i ∧ i ≤ N ∧ n ≤ i ∧ row ≤ i ∧ most ≤ i ∧ top ≤ i ∧ Hid (n = (inOrd C i).length) ∧ Hid (row = i - most16 (inOrd C i)) ∧ Hid (most = gap16 (inOrd C i)) ∧ Hid (top = most16 (inOrd C i)) ∧ Hid (Pair w1 ga gb ((inOrd C i).length + 1) ((inTurn C N t i).length + 1) (tlOf (inOrd C i)) (tlOf (inTurn C N t i)) wr)) (fun _ _ _ _ s11 _ => N - (intOf s11).toNat)
    case atStart => exact ⟨0, 0, 0, 0, 0, rfl, rfl, rfl, rfl, rfl, Nat.zero_le _, Nat.le_refl _, Nat.le_refl _, Nat.le_refl _, Nat.le_refl _, rfl, rfl, gap16_nil.symm, rfl, HP5⟩
    case round =>
      obtain ⟨n, row, most, top, i, rfl, rfl, rfl, rfl, rfl, g1, g2, g3, g4, g5, hn, hrow, hmost, htop, hP⟩ := hrel
      by_cases hi : i < N
      · have j1 : (i : Int) < (N : Int) := by omega
        obtain ⟨p, hp⟩ : ∃ p, p = N - 1 - i + t := ⟨_, rfl⟩
        have j2 : (N : Int) - 1 - (i : Int) + (t : Int) = (p : Int) := by omega
        obtain ⟨k, hk⟩ : ∃ k, k = kOf N t i := ⟨_, rfl⟩
        have hkp : p % N = k := by rw [hk, hp]; rfl
        have hkN : k < N := by rw [hk]; exact kOf_lt hi
        have j3 : (p : Int).tmod (N : Int) = (k : Int) := by
          rw [Int.tmod_eq_emod_of_nonneg (by omega), ← hkp]
          exact (Int.natCast_emod p N).symm
        have j4 : (p : Int) % (N : Int) = (k : Int) := by
          rw [← hkp]
          exact (Int.natCast_emod p N).symm
        have j5 : ((N : Int) == 0) = false := by simp; omega
        have j6 : (k : Int) < (N : Int) := by omega
        have HK : Hid (k = kOf N t i) := hk
        obtain ⟨b0, o0, rfl, hc⟩ := (HF1.out.below hP.out.below (Nat.le_refl _)) (by omega)
        obtain ⟨x, hx⟩ : ∃ x, x = 101 + i := ⟨_, rfl⟩
        have j7 : 101 + (i : Int) = (x : Int) := by omega
        have j8 : IntKind.u16.wrap (x : Int) = (x : Int) := by simp [IntKind.wrap, IntKind.bits, IntKind.signed]; omega
        obtain ⟨y, hy⟩ : ∃ y, y = 101 + k := ⟨_, rfl⟩
        have j9 : 101 + (k : Int) = (y : Int) := by omega
        have j10 : IntKind.u16.wrap (y : Int) = (y : Int) := by simp [IntKind.wrap, IntKind.bits, IntKind.signed]; omega
        have HX : Hid (x = 101 + i ∧ y = 101 + k) := ⟨hx, hy⟩
        obtain ⟨mx, hmx⟩ : ∃ mx, max most row = mx := ⟨_, rfl⟩
        have j11 := fun ts ty W => max_two ts ty most row mx W hmx
        have hmx2 : mx ≤ i := by omega
        have HMX : Hid (max most row = mx) := hmx
        have CI : wr.cell? ⟨b0, o0 + i, none⟩ = some (.bool (C i)) := hc i hi
        have CK : ∀ W, Below wr.heap.size wr W → W.cell? ⟨b0, o0 + k, none⟩ = some (.bool (C k)) := fun W hW => (hW.cell (p := ⟨b0, o0 + k, none⟩) (cell_lt (hc k hkN))).trans (hc k hkN)
        have CK0 : wr.cell? ⟨b0, o0 + k, none⟩ = some (.bool (C k)) := hc k hkN
        have LB : Hid (b0 < w1.heap.size) := by
          obtain ⟨b', o', e', hc'⟩ := HF1.out (by omega)
          cases e'
          exact cell_lt (hc' i hi)
        have CK1 : Hid (∀ W, Below w1.heap.size w1 W → W.cell? ⟨b0, o0 + k, none⟩ = some (.bool (C k))) := fun W hW => by
          obtain ⟨b', o', e', hc'⟩ := (HF1.out.below hW (Nat.le_refl _)) (by omega)
          cases e'
          exact hc' k hkN
        have O := ord_is C i
        have HO : Hid (most16 (inOrd C i) ≤ i ∧ (inOrd C i).length ≤ i) := ⟨O.2.1, Nat.le_trans O.2.2.1 O.2.1⟩
        clear hp hk hkp hc hx hy hmx CK LB O
        cases hci : C i
        · cases hck : C k
          · have ci : C i = false := by assumption
            have ck : C k = false := by assumption
            rw [ci] at CI
            rw [ck] at CK0
            have HCI : Hid (C i = false) := ci
            have HCK : Hid (C k = false) := ck
            clear ci ck
            go_wp2_with fail
            have hl2 : inTurn C N t (i + 1) = inTurn C N t i := inTurn_no (by rw [← HK.out]; exact HCK.out)
            have HPC := hP.out
            rw [← hl2] at HPC
            have HS : Hid (inOrd C (i + 1) = inOrd C i) := inOrd_no HCI.out
            go_roundw
            case rel =>
              refine ⟨n, row + 1, most, top, i + 1, rfl, by go_num, rfl, rfl, by go_num, by omega, by omega, by omega, by omega, by omega, ?_, ?_, ?_, ?_, ?_⟩
              · show n = _
                rw [HS.out]
                exact hn.out
              · show row + 1 = _
                rw [HS.out, hrow.out]
                have := HO.out
                omega
              · show most = _
                rw [HS.out]
                exact hmost.out
              · show top = _
                rw [HS.out]
                exact htop.out
              · show Pair _ _ _ _ _ _ _ _
                rw [HS.out]
                exact HPC
            case measure => simp [intOf]; omega
          · have ci : C i = false := by assumption
            have ck : C k = true := by assumption
            rw [ci] at CI
            rw [ck] at CK0
            have HCI : Hid (C i = false) := ci
            have HCK : Hid (C k = true) := ck
            clear ci ck
            go_wp2_with fail
            have E := tlOf_is (inTurn C N t i)
            have hlen : (inTurn C N t i).length ≤ i := by
              have := List.length_filter_le C ((List.range i).map (kOf N t))
              simpa [inTurn] using this
            have hM : most16 (inTurn C N t i) ≤ N := most16_le _ _ (fun j hj => by
              obtain ⟨q, hq, e⟩ := List.mem_map.1 (List.mem_filter.1 hj).1
              rw [← e]
              exact kOf_lt (by have := List.mem_range.1 hq; omega))
            refine (pair_got (x := 65637 + k) hP.out.swap (by have := HX.out; omega) (by have := HX.out; omega) (by rw [E.1]; omega) (by rw [E.1]; omega) (by rw [E.2.1]; omega) (by rw [E.2.2.2.2.2.2.2.2]; exact decide_eq_false (fun h => by rw [HK.out] at h; exact inTurn_new hi h)) (by omega) (by rw [E.2.2.1]; omega) (by rw [tlOf_row, rowOf_size]; omega)).mono ?_
            rintro e wb ⟨rfl, PB⟩
            rw [← tlOf_snoc, HK.out, ← inTurn_yes (by rw [← HK.out]; exact HCK.out)] at PB
            have HPB := PB.swap
            have hl2 : (inTurn C N t (i + 1)).length = (inTurn C N t i).length + 1 := by rw [inTurn_yes (by rw [← HK.out]; exact HCK.out)]; simp
            rw [← hl2] at HPB
            have HPC : Hid (Pair w1 ga gb ((inOrd C i).length + 1) ((inTurn C N t (i + 1)).length + 1) (tlOf (inOrd C i)) (tlOf (inTurn C N t (i + 1))) wb) := HPB
            clear E PB HPB hl2 hlen hM
            go_wp2_with fail
            have HS : Hid (inOrd C (i + 1) = inOrd C i) := inOrd_no HCI.out
            go_roundw
            case rel =>
              refine ⟨n, row + 1, most, top, i + 1, rfl, by go_num, rfl, rfl, by go_num, by omega, by omega, by omega, by omega, by omega, ?_, ?_, ?_, ?_, ?_⟩
              · show n = _
                rw [HS.out]
                exact hn.out
              · show row + 1 = _
                rw [HS.out, hrow.out]
                have := HO.out
                omega
              · show most = _
                rw [HS.out]
                exact hmost.out
              · show top = _
                rw [HS.out]
                exact htop.out
              · show Pair _ _ _ _ _ _ _ _
                rw [HS.out]
                exact HPC.out
            case measure => simp [intOf]; omega
        · cases hck : C k
          · have ci : C i = true := by assumption
            have ck : C k = false := by assumption
            rw [ci] at CI
            rw [ck] at CK0
            have HCI : Hid (C i = true) := ci
            have HCK : Hid (C k = false) := ck
            clear ci ck
            go_wp2_with fail
            have E := tlOf_is (inOrd C i)
            refine (pair_got (x := 65637 + i) hP.out (by have := HX.out; omega) (by have := HX.out; omega) (by rw [E.1]; omega) (by rw [E.1]; have := HO.out; omega) (by rw [E.2.1]; omega) (by rw [E.2.2.2.2.2.2.2.2]; exact decide_eq_false (fun h => by have := inOrd_lt h; omega)) (by have := HO.out; omega) (by rw [E.2.2.1]; have := HO.out; omega) (by rw [tlOf_row, rowOf_size]; have := HO.out; omega)).mono ?_
            rintro e wa ⟨rfl, PA⟩
            rw [← tlOf_snoc, ← inOrd_yes HCI.out] at PA
            have HPA : Hid (Pair w1 ga gb ((inOrd C i).length + 1 + 1) ((inTurn C N t i).length + 1) (tlOf (inOrd C (i + 1))) (tlOf (inTurn C N t i)) wa) := PA
            have CK2 : wa.cell? ⟨b0, o0 + k, none⟩ = some (.bool false) := (CK1.out wa PA.below).trans (by rw [HCK.out])
            clear E PA
            go_wp2_with fail
            have hl2 : inTurn C N t (i + 1) = inTurn C N t i := inTurn_no (by rw [← HK.out]; exact HCK.out)
            have HPC := HPA.out
            rw [← hl2] at HPC
            obtain ⟨s1, s2, s3⟩ := ord_step HCI.out
            have HS : Hid (gap16 (inOrd C (i + 1)) = mx ∧ most16 (inOrd C (i + 1)) = i + 1 ∧ (inOrd C (i + 1)).length = n + 1) := ⟨by rw [s1, ← hmost.out, ← hrow.out]; exact HMX.out, s2, by rw [s3, ← hn.out]⟩
            clear s1 s2 s3
            go_roundw
            case rel =>
              refine ⟨n + 1, 0, mx, i + 1, i + 1, by go_num, by go_num, rfl, by go_num, by go_num, by omega, by omega, by omega, by omega, by omega, HS.out.2.2.symm, ?_, HS.out.1.symm, HS.out.2.1.symm, ?_⟩
              · show 0 = i + 1 - most16 (inOrd C (i + 1))
                rw [HS.out.2.1]
                omega
              · show Pair _ _ _ _ _ _ _ _
                rw [HS.out.2.2, hn.out]
                exact HPC
            case measure => simp [intOf]; omega
          · have ci : C i = true := by assumption
            have ck : C k = true := by assumption
            rw [ci] at CI
            rw [ck] at CK0
            have HCI : Hid (C i = true) := ci
            have HCK : Hid (C k = true) := ck
            clear ci ck
            go_wp2_with fail
            have E := tlOf_is (inOrd C i)
            refine (pair_got (x := 65637 + i) hP.out (by have := HX.out; omega) (by have := HX.out; omega) (by rw [E.1]; omega) (by rw [E.1]; have := HO.out; omega) (by rw [E.2.1]; omega) (by rw [E.2.2.2.2.2.2.2.2]; exact decide_eq_false (fun h => by have := inOrd_lt h; omega)) (by have := HO.out; omega) (by rw [E.2.2.1]; have := HO.out; omega) (by rw [tlOf_row, rowOf_size]; have := HO.out; omega)).mono ?_
            rintro e wa ⟨rfl, PA⟩
            rw [← tlOf_snoc, ← inOrd_yes HCI.out] at PA
            have HPA : Hid (Pair w1 ga gb ((inOrd C i).length + 1 + 1) ((inTurn C N t i).length + 1) (tlOf (inOrd C (i + 1))) (tlOf (inTurn C N t i)) wa) := PA
            have CK2 : wa.cell? ⟨b0, o0 + k, none⟩ = some (.bool true) := (CK1.out wa PA.below).trans (by rw [HCK.out])
            clear E PA
            go_wp2_with fail
            have E := tlOf_is (inTurn C N t i)
            have hlen : (inTurn C N t i).length ≤ i := by
              have := List.length_filter_le C ((List.range i).map (kOf N t))
              simpa [inTurn] using this
            have hM : most16 (inTurn C N t i) ≤ N := most16_le _ _ (fun j hj => by
              obtain ⟨q, hq, e⟩ := List.mem_map.1 (List.mem_filter.1 hj).1
              rw [← e]
              exact kOf_lt (by have := List.mem_range.1 hq; omega))
            refine (pair_got (x := 65637 + k) HPA.out.swap (by have := HX.out; omega) (by have := HX.out; omega) (by rw [E.1]; omega) (by rw [E.1]; omega) (by rw [E.2.1]; omega) (by rw [E.2.2.2.2.2.2.2.2]; exact decide_eq_false (fun h => by rw [HK.out] at h; exact inTurn_new hi h)) (by omega) (by rw [E.2.2.1]; omega) (by rw [tlOf_row, rowOf_size]; omega)).mono ?_
            rintro e wb ⟨rfl, PB⟩
            rw [← tlOf_snoc, HK.out, ← inTurn_yes (by rw [← HK.out]; exact HCK.out)] at PB
            have HPB := PB.swap
            have hl2 : (inTurn C N t (i + 1)).length = (inTurn C N t i).length + 1 := by rw [inTurn_yes (by rw [← HK.out]; exact HCK.out)]; simp
            rw [← hl2] at HPB
            have HPC : Hid (Pair w1 ga gb ((inOrd C i).length + 1 + 1) ((inTurn C N t (i + 1)).length + 1) (tlOf (inOrd C (i + 1))) (tlOf (inTurn C N t (i + 1))) wb) := HPB
            clear E PB HPB hl2 hlen hM
            go_wp2_with fail
            obtain ⟨s1, s2, s3⟩ := ord_step HCI.out
            have HS : Hid (gap16 (inOrd C (i + 1)) = mx ∧ most16 (inOrd C (i + 1)) = i + 1 ∧ (inOrd C (i + 1)).length = n + 1) := ⟨by rw [s1, ← hmost.out, ← hrow.out]; exact HMX.out, s2, by rw [s3, ← hn.out]⟩
            clear s1 s2 s3
            go_roundw
            case rel =>
              refine ⟨n + 1, 0, mx, i + 1, i + 1, by go_num, by go_num, rfl, by go_num, by go_num, by omega, by omega, by omega, by omega, by omega, HS.out.2.2.symm, ?_, HS.out.1.symm, HS.out.2.1.symm, ?_⟩
              · show 0 = i + 1 - most16 (inOrd C (i + 1))
                rw [HS.out.2.1]
                omega
              · show Pair _ _ _ _ _ _ _ _
                rw [HS.out.2.2, hn.out]
                exact HPC.out
            case measure => simp [intOf]; omega
      · obtain rfl : i = N := by omega
        have j1 : decide ((i : Int) < (i : Int)) = false := by simp
        have O := ord_is C i
        have E := tlOf_is (inOrd C i)
        have F := tlOf_is (inTurn C i t i)
        have PM := turn_perm C i t
        have SA := sorts_to C i _ (List.Perm.refl (inOrd C i))
        have SB := sorts_to C i _ PM
        have HO : Hid (stl (ys16 (inOrd C i)) 65635 ((inOrd C i).length + 1) = 65636 + most16 (inOrd C i) ∧ most16 (inOrd C i) ≤ i ∧ (inOrd C i).length ≤ most16 (inOrd C i) ∧ gap16 (inOrd C i) ≤ i) := ⟨O.1, O.2.1, O.2.2.1, O.2.2.2.1⟩
        have HM : Hid (most16 (inTurn C i t i) = most16 (inOrd C i) ∧ (inTurn C i t i).length = (inOrd C i).length) := ⟨most16_perm PM, PM.length_eq⟩
        obtain ⟨T, hT⟩ : ∃ T, T = 65636 + top := ⟨_, rfl⟩
        obtain ⟨D, hD⟩ : ∃ D, D = top - n := ⟨_, rfl⟩
        obtain ⟨Q, hQ⟩ : ∃ Q, Q = n + 1 := ⟨_, rfl⟩
        have o1 := hn.out
        have o2 := htop.out
        have o3 := hmost.out
        have hnt : n ≤ top := by omega
        have u1 : 65636 + (top : Int) = (T : Int) := by omega
        have u2 : (top : Int) - (n : Int) = (D : Int) := by omega
        have u3 : (n : Int) + 1 = (Q : Int) := by omega
        have u4 : IntKind.u64.wrap (T : Int) = (T : Int) := by simp [IntKind.wrap, IntKind.bits, IntKind.signed]; omega
        have u5 : IntKind.u32.wrap (D : Int) = (D : Int) := by simp [IntKind.wrap, IntKind.bits, IntKind.signed]; omega
        have u6 : IntKind.u32.wrap (Q : Int) = (Q : Int) := by simp [IntKind.wrap, IntKind.bits, IntKind.signed]; omega
        have u7 : IntKind.u16.wrap (most : Int) = (most : Int) := by simp [IntKind.wrap, IntKind.bits, IntKind.signed]; omega
        have eg : bst (ys16 (inOrd C i)) 65635 0 ((inOrd C i).length + 1) = gap16 (inOrd C i) := rfl
        have VA : Hid (rpV (tlOf (inOrd C i)).top ((tlOf (inOrd C i)).top - (tlOf (inOrd C i)).since - (tlOf (inOrd C i)).got) (tlOf (inOrd C i)).got (min (bst (ys16 (inOrd C i)) (tlOf (inOrd C i)).settled (tlOf (inOrd C i)).burst ((inOrd C i).length + 1)) 65535) = rpV T D Q most) := by
          show rpV _ _ _ _ = _
          rw [E.1, E.2.1, E.2.2.1, E.2.2.2.1, E.2.2.2.2.1]
          rw [eg, ← o1, ← o2, ← o3, Nat.min_eq_left (by omega), hT, hD, hQ, show 65636 + top - 65635 - (n + 1) = top - n by omega]
        have VB : Hid (rpV (tlOf (inTurn C i t i)).top ((tlOf (inTurn C i t i)).top - (tlOf (inTurn C i t i)).since - (tlOf (inTurn C i t i)).got) (tlOf (inTurn C i t i)).got (min (bst (ys16 (inOrd C i)) (tlOf (inTurn C i t i)).settled (tlOf (inTurn C i t i)).burst ((inOrd C i).length + 1)) 65535) = rpV T D Q most) := by
          show rpV _ _ _ _ = _
          rw [F.1, F.2.1, F.2.2.1, F.2.2.2.1, F.2.2.2.2.1, HM.out.1, HM.out.2]
          rw [eg, ← o1, ← o2, ← o3, Nat.min_eq_left (by omega), hT, hD, hQ, show 65636 + top - 65635 - (n + 1) = top - n by omega]
        have HNT : Hid (n ≤ top ∧ top ≤ i ∧ i ≤ 20) := ⟨hnt, g5, hN2⟩
        have hT9 : T ≤ 1000000 := by omega
        have hD9 : D ≤ 1000000 := by omega
        have hQ9 : Q ≤ 1000000 := by omega
        clear hT hD hQ o1 o2 o3 hnt eg
        go_wp2_with fail
        refine (pair_report (ys16 (inOrd C i)) hP.out SA.1 (by have := HO.out; omega) SA.2 (by rw [E.2.2.2.1]; exact O.2.2.2.2.1) (fun q hq => by have := O.2.2.2.2.2 q hq; omega) (by rw [E.2.2.2.2.1]; decide) (by rw [E.1]; omega) (by rw [E.1]; have := HO.out; omega) (by rw [E.2.2.1]; have := HO.out; omega) (by rw [E.1, E.2.1, E.2.2.1]; have := HO.out; omega)).mono ?_
        rintro e wa ⟨rfl, PA⟩
        rw [VA.out]
        have HPA : Hid (Pair w1 ga gb ((inOrd C i).length + 1) ((inTurn C i t i).length + 1) (tlOf (inOrd C i)).told (tlOf (inTurn C i t i)) wa) := PA
        clear PA hP
        go_wp2_with fail
        refine (pair_report (ys16 (inOrd C i)) HPA.out.swap SB.1 (by have := HO.out; omega) SB.2 (by rw [F.2.2.2.1]; exact O.2.2.2.2.1) (fun q hq => by have := O.2.2.2.2.2 q hq; omega) (by rw [F.2.2.2.2.1]; decide) (by rw [F.1]; omega) (by rw [F.1, HM.out.1]; have := HO.out; omega) (by rw [F.2.2.1, HM.out.2]; have := HO.out; omega) (by rw [F.1, F.2.1, F.2.2.1, HM.out.1, HM.out.2]; have := HO.out; omega)).mono ?_
        rintro e wb ⟨rfl, PB⟩
        rw [VB.out]
        have HL : Hid ((tlOf (inTurn C i t i)).told.late = 0) := F.2.2.2.2.2.1
        have HPB : Hid (Pair w1 gb ga ((inTurn C i t i).length + 1) ((inOrd C i).length + 1) (tlOf (inTurn C i t i)).told (tlOf (inOrd C i)).told wb) := PB
        clear PB HPA E F SA SB O PM VA VB
        unfold rpV
        have q1 := fun w => rp_eq T D Q most w
        go_wp2_with fail
        refine (pair_late (HPB.out.grew (((Below.refl _ _).alloc (Nat.le_refl _) (.cells #[.int .u64 (T : Int), .int .u32 (D : Int), .int .u32 (Q : Int), .int .u16 (most : Int), .int .u16 0] 32)).alloc (Nat.le_of_lt (by simp)) (.cells #[.int .u64 (T : Int), .int .u32 (D : Int), .int .u32 (Q : Int), .int .u16 (most : Int), .int .u16 0] 32)))).mono ?_
        rintro e wc ⟨rfl, rfl⟩
        rw [HL.out]
        have HE : Hid (Below w.heap.size w ((wb.alloc (.cells #[.int .u64 (T : Int), .int .u32 (D : Int), .int .u32 (Q : Int), .int .u16 (most : Int), .int .u16 0] 32)).alloc (.cells #[.int .u64 (T : Int), .int .u32 (D : Int), .int .u32 (Q : Int), .int .u16 (most : Int), .int .u16 0] 32))) := (HB1.out.trans (HPB.out.below.mono HB1.out.size)).trans ((((Below.refl _ _).alloc (Nat.le_refl _) (.cells #[.int .u64 (T : Int), .int .u32 (D : Int), .int .u32 (Q : Int), .int .u16 (most : Int), .int .u16 0] 32)).alloc (Nat.le_of_lt (by simp)) (.cells #[.int .u64 (T : Int), .int .u32 (D : Int), .int .u32 (Q : Int), .int .u16 (most : Int), .int .u16 0] 32)).mono (Nat.le_trans HB1.out.size HPB.out.below.size))
        clear HPB HL q1
        go_wp2
        go_ret
        exact ⟨rfl, HE.out⟩

set_option maxRecDepth 100000 in
theorem lifted (os : Os) (started : os.Started) (H : Type) (enc : TypeId × Value → H) :
    ReturnsInHanded {} Try.checked os 3 .any (Rows.tallyAnySpec.pre6 enc Try.prog Try.f3 Rows.tallyAnyRow.domain false) (Rows.tallyAnySpec.post enc Try.prog Try.f3 false true false false) := by
  refine returnsInHanded_of_change (C := Try.checked) own started (by kernel_rfl) Try.func3
    (ChangeSpec.witness6 (enc := enc) (C := Try.checked) false ⟨#[], #[.slice none 0 0, .int .u8 0], []⟩ 8 (by kernel_rfl) (by kernel_rfl) (by kernel_rfl) (by kernel_rfl)) ?_
  intro W base args ds gs before hval0 hW hcnd _
  have hval : ∀ (j : Nat) t v, Try.f3.params[j]? = some t → args[j]? = some v → Value.okWide Try.prog W .any base t v := hval0
  have hW' := hW
  obtain ⟨p, q, hA0, hV, rfl, hfz, hnd⟩ := hW
  have hA : DataW.TrodAll enc Try.prog W 0 (fun _ => true) true Try.f3.params.toList args.toList ds p := hA0
  rw [Try.params3] at hA hval
  obtain ⟨v0, vs0, d0, ds0, p0, q0, hargs, rfl, rfl, h0, r0⟩ := trodAll_cons hA
  obtain ⟨v1, vs1, d1, ds1, p1, q1, rfl, rfl, rfl, h1, r1⟩ := trodAll_cons r0
  obtain ⟨rfl, rfl, rfl⟩ := trodAll_nil r1
  obtain rfl : args = #[v0, v1] := by cases args; simp_all
  obtain ⟨rfl, rfl⟩ := trodVars_none hV
  obtain ⟨a0, len0, cap0, rfl⟩ := okWide_slice Try.underlying22 (hval 0 22 v0 rfl rfl)
  have k0 := h0
  have lt0 : ∀ x ∈ p0, x.block < W.heap.size := by obtain ⟨m, hm⟩ := k0; exact DataW.trod_lt m _ _ _ hm
  obtain ⟨x0, w0⟩ := open_flags Try.underlying22 Try.underlying4 (by kernel_rfl) h0
  obtain ⟨a1, rfl, rfl, rfl, w1⟩ := open_int Try.underlying5 (hval 1 5 v1 rfl rfl) h1
  clear hA0 hval0
  refine (walk a0 len0 cap0 x0 a1 W w0 w1).mono fun e W' ⟨he, bel⟩ => ?_
  subst he
  exact ⟨_, rfl, _, _, _, [], _, [], hW', trodAll_mk1 (shut_bool Try.underlying4 _), (trodAll_cons_mk (Below.trod laidOut (by kernel_rfl) (of_decide_eq_true (by kernel_rfl)) k0 bel lt0) (trodAll_cons_mk (shut_int Try.underlying5 w1) trodAll_mk0)), rfl, bel.frame _, fun h => by cases h⟩

theorem over : Rows.tallyAnyRow.holds Try.pinned (OpenSpec.ofChange Rows.tallyAnySpec) :=
  OpenClaim.holds_of_wide 3 Try.f3 rfl rfl rfl rfl rfl rfl rfl ⟨rfl, rfl, rfl, rfl, rfl⟩ rfl rfl rfl rfl rfl (by kernel_rfl) Try.func3 (by kernel_rfl)
    (of_decide_eq_true (by kernel_rfl)) (by unfold Func.isWrapper; first | (rw [if_pos (by decide +kernel)]; kernel_rfl) | (rw [if_neg (by decide +kernel)]; exact ⟨rfl, rfl⟩))
    (fun os started H enc _ => lifted os started H enc)

theorem proved : Rows.TallyAnySaid := over
end Go.Proofs.Ytalfncnpffbmmaa.tallyAny
namespace Go.Proofs.Ytalfncnpffbmmaa
theorem tallyAny_holds : Rows.TallyAnySaid := tallyAny.proved
#print axioms tallyAny_holds
end Go.Proofs.Ytalfncnpffbmmaa

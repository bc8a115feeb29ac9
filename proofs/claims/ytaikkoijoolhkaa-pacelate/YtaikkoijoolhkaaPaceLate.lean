/-
  Just what is late goes when it is late: the statement PaceLate: the call returns true (every row of deadlines, every clock).
-/
import Derived.Test.YtaikkoijoolhkaaRows
import Derived.WalkKit
import Derived.ProofKit
import Derived.OpenShut
import Derived.ShutString
import Derived.ChangeOld
import Derived.Below
import Derived.Carry
import Derived.Test.YtaikkoijoolhkaaOpn
import Derived.Test.YtaikkoijoolhkaaPbg
import Derived.Test.YtaikkoijoolhkaaPpl
import Derived.Test.YtaikkoijoolhkaaOpi
import Derived.BigQuiet
namespace Go.Proofs.Ytaikkoijoolhkaa.paceLate
open Go.ChangeShapes Go.WideShapes Go.ChangeAt Go.RowKit
open Go.ChangeMaps (open_string shut_string)
set_option linter.unusedVariables false

theorem own : ownKnob Try.prog.godebug = none := by kernel_rfl
theorem laidOut : laidOutB Try.prog = true := by kernel_rfl

open Go.Deep

def itm (z : Nat → Int) (i : Nat) : It := ⟨0, (i : Int), 0, 1, z i⟩

set_option maxRecDepth 100000 in
set_option maxHeartbeats 4000000 in
theorem walk (a : Option Addr) (n c : Nat) (z : Nat → Int) (C : Int) (w : World) (hK : IntsAt w a n z ∧ n ≤ c ∧ c ≤ maxLen) (_hC : (Lit.int .i64 C).wf = true) :
    Calls Try.prog 5 #[.slice a n c, .int .i64 C] w fun e w' => e = .returned (.bool true) ∧ Below w.heap.size w w' := by
  obtain ⟨hK, hc1, hc2⟩ := hK
  have hB : Hid (Calls Try.prog 8 #[] w fun e w' => e = .returned (.bool true) ∧ Below w.heap.size w w') := begun22 w
  have HK : Hid (IntsAt w a n z) := hK
  have hn64 : (n : Int) ≤ 9223372036854775807 := by unfold maxLen at hc2; omega
  clear hK hc1 hc2 _hC
  by_cases h40 : 40 < n
  · have i1 : (40 : Int) < (n : Int) := by omega
    clear h40
    go_enter Try.func5, Try.ntmps5
    go_wp2_with fail
    refine hB.out.mono ?_
    rintro e w1 ⟨rfl, b1⟩
    have HB : Hid (Below w.heap.size w w1) := b1
    clear b1 hB
    go_wp2
    go_ret
    exact ⟨rfl, HB.out⟩
  have i1 : decide ((40 : Int) < (n : Int)) = false := by simp; omega
  have hn : n ≤ 40 := by omega
  clear h40 hn64
  go_enter Try.func5, Try.ntmps5
  go_wp2_with fail
  refine hB.out.mono ?_
  rintro e w1 ⟨rfl, b1⟩
  obtain ⟨B, hB1⟩ : ∃ B, w1.heap.size = B := ⟨_, rfl⟩
  obtain ⟨x1, e1⟩ : ∃ x, w1.alloc (.cells #[.slice none 0 0] 55) = x := ⟨_, rfl⟩
  have HN : Hid (Calls Try.prog 9 #[] w1 fun e w' => e = .returned (.pointer (some ⟨B, 0, none⟩)) ∧ w' = x1) := by
    rw [← hB1, ← e1]
    exact pnew_any w1
  have HL : Hid (Lv w B (items (itm z) 0) x1) := by
    rw [← e1, ← hB1]
    exact ⟨⟨_, QAt.made w1 w.heap.size _ b1.size⟩, b1.trans (((Below.refl _ _).alloc (Nat.le_refl _) _).mono b1.size), Okl.nil⟩
  clear hB b1 hB1 e1
  go_wp2_with fail
  refine HN.out.mono ?_
  rintro e w' ⟨rfl, hw⟩
  subst w'
  clear HN
  go_wp2_with fail
  go_loopw [6, 7] (fun nv iv wr => ∃ k m : Nat, k ≤ n ∧ iv = .int .i64 (k : Int) ∧ nv = .int .i64 (m : Int) ∧ m ≤ k ∧ Hid (m = (prt (late C) 0 (items (itm z) k)).1.length) ∧ Hid (Lv w B (items (itm z) k) wr)) (fun _ iv _ => n - (intOf iv).toNat)
  case atStart => exact ⟨0, 0, Nat.zero_le _, rfl, rfl, Nat.le_refl _, rfl, HL⟩
  case round =>
    obtain ⟨k, m, hk, rfl, rfl, hmk, hm, hl⟩ := hrel
    clear HL
    by_cases h : k < n
    · have i2 : (k : Int) < (n : Int) := by omega
      obtain ⟨ab, ao, rfl, hc⟩ := HK.out (by omega)
      have HC : Hid (w.cell? ⟨ab, ao + k, none⟩ = some (.int .i64 (z k))) := hc k h
      have c0 := (hl.out.bel.cell (p := ⟨ab, ao + k, none⟩) (cell_lt HC.out)).trans HC.out
      clear hc
      have hl1 := items_len (itm z) k
      have CALL : Hid (Calls Try.prog 10 #[.pointer (some ⟨B, 0, none⟩), .agg #[.int .u32 0, .int .i64 (k : Int), .int .i64 0, .int .i64 1, .int .i64 (z k)]] wr fun e w' => e = .returned (.bool true) ∧ Lv w B (items (itm z) (k + 1)) w') := by
        rw [items_next]
        exact put_lv (itm z k) hl.out ⟨by show (1 : Int) ≤ 1; decide, by show (1 : Int) ≤ 65536; decide, by rw [hl1]; omega⟩ (by show 0 < 4294967296; decide)
      have HP : Hid (prt (late C) 0 (items (itm z) (k + 1)) = pst (late C) (prt (late C) 0 (items (itm z) k)) (itm z k)) := by show _ = _; rw [items_next, prt_snoc]
      clear hl hl1
      go_wp2_with fail
      refine CALL.out.mono ?_
      rintro e w2 ⟨rfl, L2⟩
      have HL2 : Hid (Lv w B (items (itm z) (k + 1)) w2) := L2
      have c0 := (L2.bel.cell (p := ⟨ab, ao + k, none⟩) (cell_lt HC.out)).trans HC.out
      clear CALL L2
      by_cases hz : z k ≤ C
      · have i3 : decide (z k ≤ C) = true := decide_eq_true hz
        have HM : Hid (m + 1 = (prt (late C) 0 (items (itm z) (k + 1))).1.length) := by
          have e : ((late C) (prt (late C) 0 (items (itm z) k)).2.2 (itm z k)).1 = true := i3
          show _ = _
          rw [HP.out]
          unfold pst
          rw [if_pos e]
          simp [hm.out]
        clear hz HP hm
        go_wp2_with fail
        go_roundw
        case rel => exact ⟨k + 1, m + 1, by omega, by go_num, by go_num, by omega, HM, HL2⟩
        case measure => simp [intOf]; omega
      · have i3 : decide (z k ≤ C) = false := decide_eq_false hz
        have HM : Hid (m = (prt (late C) 0 (items (itm z) (k + 1))).1.length) := by
          have e : ¬ ((late C) (prt (late C) 0 (items (itm z) k)).2.2 (itm z k)).1 = true := by show ¬ decide (z k ≤ C) = true; rw [i3]; decide
          show _ = _
          rw [HP.out]
          unfold pst
          rw [if_neg e]
          exact hm.out
        clear hz HP hm
        go_wp2_with fail
        go_roundw
        case rel => exact ⟨k + 1, m, by omega, by go_num, rfl, by omega, HM, HL2⟩
        case measure => simp [intOf]; omega
    · obtain rfl : k = n := by omega
      have i2 : decide ((k : Int) < (k : Int)) = false := by simp
      have CALL : Hid (Calls Try.prog 15 #[.pointer (some ⟨B, 0, none⟩), .int .i64 C] wr fun e w' => (∃ r cp, e = .returned (.slice r (prt (late C) 0 (items (itm z) k)).1.length cp) ∧ LsAt iE w' r (prt (late C) 0 (items (itm z) k)).1) ∧ Lv w B (prt (late C) 0 (items (itm z) k)).2.1 w') := expire_lv C hl.out
      have hsub := prt_sub (late C) 0 (items (itm z) k)
      have HO : Hid ((prt (late C) 0 (items (itm z) k)).1.Pairwise fun a b => a.s < b.s) := sub_ord hsub.1 (items_ord _ (fun _ => rfl) k)
      have HLt : Hid (∀ a, a ∈ (prt (late C) 0 (items (itm z) k)).1 → a.d ≤ C) := by
        show ∀ a, _
        intro a ha
        rw [prt_late] at ha
        simpa using (List.mem_filter.1 ha).2
      have HLen : Hid ((prt (late C) 0 (items (itm z) k)).2.1.length = k - m) := by
        have := prt_len (late C) 0 (items (itm z) k)
        rw [items_len, ← hm.out] at this
        show _ = _
        omega
      have HN2 : Hid ((prt (late C) 0 (prt (late C) 0 (items (itm z) k)).2.1).1.length = 0) := by
        show _ = _
        rw [prt_late, prt_late]
        simp [List.filter_filter]
      rw [← hm.out] at CALL
      have HMl : Hid (m = (prt (late C) 0 (items (itm z) k)).1.length) := hm
      generalize (prt (late C) 0 (items (itm z) k)).1 = G at *
      generalize (prt (late C) 0 (items (itm z) k)).2.1 = S at *
      clear hsub hl hm
      go_wp2_with fail
      refine CALL.out.mono ?_
      rintro e w2 ⟨⟨r, cp, rfl, hls⟩, L2⟩
      have HG : Hid (LsAt iE w2 r G) := hls
      have HL2 : Hid (Lv w B S w2) := L2
      clear CALL hls L2
      go_wp2_with fail
      generalize wr = wo at *
      go_loopw [9] (fun iv wr => ∃ i : Nat, i ≤ m ∧ iv = .int .i64 (i : Int) ∧ Hid (Same w2 wr)) (fun iv _ => m - (intOf iv).toNat)
      case atStart => exact ⟨0, Nat.zero_le _, rfl, Same.refl _⟩
      case round =>
        obtain ⟨i, hi, rfl, hs⟩ := hrel
        by_cases him : i < m
        · have j1 : (i : Int) < (m : Int) := by omega
          have hiG : i < G.length := by rw [← HMl.out]; exact him
          obtain ⟨b0, o0, rfl⟩ := HG.out.addr (by omega)
          have hG := HG.out.below (hs.out.below w2.heap.size) (Nat.le_refl _)
          obtain ⟨c0, c1, c2, c3, c4⟩ := ls_it hG i hiG
          have hd : decide (C < G[i].d) = false := by
            have := HLt.out _ (List.getElem_mem hiG)
            simpa using this
          by_cases h0 : i = 0
          · have j2 : decide (0 < i) = false := by simp; omega
            generalize G[i] = A at *
            clear hG h0
            go_wp2_with fail
            go_quiet (fail)
            go_wp2_with fail
            go_roundw
            case rel => exact ⟨i + 1, by omega, by go_num, hs.out.trans ⟨_, rfl⟩⟩
            case measure => simp [intOf]; omega
          · obtain ⟨j, hj⟩ : ∃ j, i = j + 1 := ⟨i - 1, by omega⟩
            have j2 : decide (0 < i) = true := by simp; omega
            have j3 : IntKind.i64.wrap ((i : Int) - 1) = (j : Int) := by rw [w64 _ (by omega) (by omega)]; omega
            have j4 : (j : Int) < (m : Int) := by omega
            have hjG : j < G.length := by omega
            obtain ⟨d0, d1, d2, d3, d4⟩ := ls_it hG j hjG
            have hsy : decide (G[i].s ≤ G[j].s) = false := by
              have := List.pairwise_iff_getElem.1 HO.out j i hjG hiG (by omega)
              simpa using this
            generalize G[i] = A at *
            generalize G[j] = A' at *
            clear hG h0 hj
            go_wp2_with fail
            go_quiet (fail)
            go_wp2_with fail
            go_roundw
            case rel => exact ⟨i + 1, by omega, by go_num, hs.out.trans ⟨_, rfl⟩⟩
            case measure => simp [intOf]; omega
        · obtain rfl : i = m := by omega
          have j1 : decide ((i : Int) < (i : Int)) = false := by simp
          have L3 : Lv w B S wr := HL2.out.grew (hs.out.below _)
          have j2 : IntKind.i64.wrap ((k : Int) - (i : Int)) = (S.length : Int) := by
            have := HLen.out
            rw [w64 _ (by omega) (by omega)]
            omega
          have C1 : Hid (Calls Try.prog 23 #[.pointer (some ⟨B, 0, none⟩)] wr fun e w' => e = .returned (.int .i64 (S.length : Int)) ∧ w' = wr) := len_lv L3
          have C2 : Hid (Calls Try.prog 15 #[.pointer (some ⟨B, 0, none⟩), .int .i64 C] wr fun e w' => (∃ r cp, e = .returned (.slice r 0 cp) ∧ LsAt iE w' r (prt (late C) 0 S).1) ∧ Lv w B (prt (late C) 0 S).2.1 w') := by
            have := expire_lv C L3
            rw [HN2.out] at this
            exact this
          clear L3 hs
          go_wp2_with fail
          refine C1.out.mono ?_
          rintro e w' ⟨rfl, hw⟩
          subst w'
          clear C1
          go_wp2_with fail
          refine C2.out.mono ?_
          rintro e w4 ⟨⟨r4, cp4, rfl, -⟩, L4⟩
          have HE : Hid (Below w.heap.size w w4) := L4.bel
          clear C2 L4
          go_wp2_with fail
          go_ret
          exact ⟨rfl, HE.out⟩

set_option maxRecDepth 100000 in
theorem lifted (os : Os) (started : os.Started) (H : Type) (enc : TypeId × Value → H) :
    ReturnsInHanded {} Try.checked os 5 .any (Rows.paceLateSpec.pre6 enc Try.prog Try.f5 Rows.paceLateRow.domain false) (Rows.paceLateSpec.post enc Try.prog Try.f5 false true false false) := by
  refine returnsInHanded_of_change (C := Try.checked) own started (by kernel_rfl) Try.func5
    (ChangeSpec.witness6 (enc := enc) (C := Try.checked) false ⟨#[], #[.slice none 0 0, .int .i64 0], []⟩ 8 (by kernel_rfl) (by kernel_rfl) (by kernel_rfl) (by kernel_rfl)) ?_
  intro W base args ds gs before hval0 hW hcnd _
  have hval : ∀ (j : Nat) t v, Try.f5.params[j]? = some t → args[j]? = some v → Value.okWide Try.prog W .any base t v := hval0
  have hW' := hW
  obtain ⟨p, q, hA0, hV, rfl, hfz, hnd⟩ := hW
  have hA : DataW.TrodAll enc Try.prog W 0 (fun _ => true) true Try.f5.params.toList args.toList ds p := hA0
  rw [Try.params5] at hA hval
  obtain ⟨v0, vs0, d0, ds0, p0, q0, hargs, rfl, rfl, h0, r0⟩ := trodAll_cons hA
  obtain ⟨v1, vs1, d1, ds1, p1, q1, rfl, rfl, rfl, h1, r1⟩ := trodAll_cons r0
  obtain ⟨rfl, rfl, rfl⟩ := trodAll_nil r1
  obtain rfl : args = #[v0, v1] := by cases args; simp_all
  obtain ⟨rfl, rfl⟩ := trodVars_none hV
  obtain ⟨a0, len0, cap0, rfl⟩ := okWide_slice Try.underlying50 (hval 0 50 v0 rfl rfl)
  have k0 := h0
  have lt0 : ∀ x ∈ p0, x.block < W.heap.size := by obtain ⟨m, hm⟩ := k0; exact DataW.trod_lt m _ _ _ hm
  obtain ⟨x0, w0⟩ := open_ints Try.underlying50 Try.underlying2 (by kernel_rfl) h0
  obtain ⟨a1, rfl, rfl, rfl, w1⟩ := open_int Try.underlying2 (hval 1 2 v1 rfl rfl) h1
  clear hA0 hval0
  refine (walk a0 len0 cap0 x0 a1 W w0 w1).mono fun e W' ⟨he, bel⟩ => ?_
  subst he
  exact ⟨_, rfl, _, _, _, [], _, [], hW', trodAll_mk1 (shut_bool Try.underlying4 _), (trodAll_cons_mk (Below.trod laidOut (by kernel_rfl) (of_decide_eq_true (by kernel_rfl)) k0 bel lt0) (trodAll_cons_mk (shut_int Try.underlying2 w1) trodAll_mk0)), rfl, bel.frame _, fun h => by cases h⟩

theorem over : Rows.paceLateRow.holds Try.pinned (OpenSpec.ofChange Rows.paceLateSpec) :=
  OpenClaim.holds_of_wide 5 Try.f5 rfl rfl rfl rfl rfl rfl rfl ⟨rfl, rfl, rfl, rfl, rfl⟩ rfl rfl rfl rfl rfl (by kernel_rfl) Try.func5 (by kernel_rfl)
    (of_decide_eq_true (by kernel_rfl)) (by unfold Func.isWrapper; first | (rw [if_pos (by decide +kernel)]; kernel_rfl) | (rw [if_neg (by decide +kernel)]; exact ⟨rfl, rfl⟩))
    (fun os started H enc _ => lifted os started H enc)

theorem proved : Rows.PaceLateSaid := over
end Go.Proofs.Ytaikkoijoolhkaa.paceLate
namespace Go.Proofs.Ytaikkoijoolhkaa
theorem paceLate_holds : Rows.PaceLateSaid := paceLate.proved
#print axioms paceLate_holds
end Go.Proofs.Ytaikkoijoolhkaa

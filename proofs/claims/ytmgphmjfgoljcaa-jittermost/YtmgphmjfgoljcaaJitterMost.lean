/-
  It is never more than the most uneven one: the call returns true, whatever the ways are (at most 60 ways are looked at; no condition).
-/
import Derived.Test.YtmgphmjfgoljcaaRows
import Derived.WalkKit
import Derived.ProofKit
import Derived.OpenShut
import Derived.ShutString
import Derived.ChangeOld
import Derived.Below
import Derived.Test.YtmgphmjfgoljcaaJi2
import Derived.Test.YtmgphmjfgoljcaaNms
namespace Go.Proofs.Ytmgphmjfgoljcaa.jitterMost
open Go.ChangeShapes Go.WideShapes Go.ChangeAt Go.RowKit
open Go.ChangeMaps (open_string shut_string)
set_option linter.unusedVariables false

theorem own : ownKnob Try.prog.godebug = none := by kernel_rfl
theorem laidOut : laidOutB Try.prog = true := by kernel_rfl

/-- WHAT THE WALK IS TOLD OF A SLICE OF INTEGERS THAT CAME IN: it is nil; or it leads to a row of 'cap' cells, the numbers 'zs' (the first 'len' are its elements, the rest its spare room), each fitting its kind. -/
def IsRow (k : IntKind) (w : World) (a : Option Addr) (len cap : Nat) (zs : List Int) : Prop :=
  (a = none ∧ len = 0 ∧ cap = 0 ∧ zs = []) ∨
  ∃ x, a = some x ∧ len ≤ cap ∧ cap ≤ maxLen ∧ zs.length = cap ∧ (∀ i, i < zs.length → w.cell? (x.add i) = some (.int k (zs.getD i 0))) ∧ ∀ n ∈ zs, (Lit.int k n).wf = true

open Go.Deep

theorem max_three (ts : Array TypeId) (t : TypeId) (m M : Nat) (D E : Int) (w : World) (hE : -D = E) (h : max m D.natAbs = M) : (Builtin.max_ ts t #[.int .i64 (m : Int), .int .i64 D, .int .i64 E]).run Try.prog w = .ok (.int .i64 (M : Int)) w := by
  subst hE h
  simp [Builtin.max_, Builtin.max2]
  split <;> split <;> omega
theorem range_u8 {zs : List Int} (h : ∀ n ∈ zs, (Lit.int .u8 n).wf = true) (i : Nat) : 0 ≤ zs[i]?.getD 0 ∧ zs[i]?.getD 0 ≤ 255 := by
  by_cases hi : i < zs.length
  · rw [List.getElem?_eq_getElem hi]
    exact bounds_u8 (h _ (List.getElem_mem hi))
  · rw [List.getElem?_eq_none (by omega)]
    simp
/-- What stands ahead of the j-th packet: none came ahead of the first one, and the last one's way is in its place. -/
def Stands (y : Nat → Nat) (t : Bool) (q j : Nat) : Prop := (j = 0 → t = false) ∧ (0 < j → q = y (j - 1))
/-- The sum u is small against the most uneven one. -/
def Small (u m : Nat) : Prop := u ≤ 16 * m + 7
theorem far_small {r p : Nat} (hr : r < 256) (hp : p < 256) : Ji.far r p = ((p : Int) - (r : Int)).natAbs := by
  unfold Ji.far Ser.dif
  split <;> omega
theorem way_at {P p N : Nat} (hp : p < 256) (h : (P : Int) + (p : Int) = N) : Ji.way (N : Int) P = p := by
  unfold Ji.way
  omega

set_option maxRecDepth 100000 in
set_option maxHeartbeats 400000 in
theorem long (a0 : Option Addr) (n ca : Nat) (w : World) (hn : 60 < n) :
    Calls Try.prog 5 #[.slice a0 n ca] w fun e w' => e = .returned (.bool true) ∧ Below w.heap.size w w' := by
  have i60 : (60 : Int) < (n : Int) := by omega
  go_enter Try.func5, Try.ntmps5
  go_wp2_with fail
  refine (begun19 _).mono ?_
  rintro e w0 ⟨rfl, b0⟩
  go_wp2
  go_ret
  exact ⟨rfl, b0⟩

set_option maxRecDepth 100000 in
set_option maxHeartbeats 1000000 in
theorem core (a0 : Option Addr) (n ca : Nat) (y : Nat → Nat) (w : World) (hx : NumsAt .u8 w a0 n (fun i => (y i : Int))) (hn : n ≤ 60) (hry : ∀ i, y i < 256) :
    Calls Try.prog 5 #[.slice a0 n ca] w fun e w' => e = .returned (.bool true) ∧ Below w.heap.size w w' := by
  have HW : Hid (∀ x : Int, -9223372036854775808 ≤ x → x < 9223372036854775808 → IntKind.i64.wrap x = x) := fun x h1 h2 => by
    simp only [IntKind.wrap, IntKind.bits, IntKind.signed]; simp; omega
  have HX : Hid (NumsAt .u8 w a0 n (fun i => (y i : Int))) := hx
  have HY : Hid (∀ i, y i < 256) := hry
  have i60 : decide ((60 : Int) < (n : Int)) = false := by simp; omega
  clear hx hry
  go_enter Try.func5, Try.ntmps5
  go_wp2_with fail
  refine (begun19 _).mono ?_
  rintro e w0 ⟨rfl, b0⟩
  go_wp2_with fail
  refine (jitter_new _).mono ?_
  rintro e w1 ⟨rfl, M1, d1, -⟩
  have b1 := b0.trans (d1.mono b0.size)
  have h0 := b0.size
  have HM : Hid (JiAt w1 w0.heap.size false 0 0) := M1
  have HB : Hid (Below w.heap.size w w1) := b1
  clear b0 d1 b1 M1
  generalize w0.heap.size = G at *
  go_wp2_with fail
  go_loopw [4, 5] (fun s4 i wr => ∃ (m j v q : Nat) (t : Bool), m ≤ 255 ∧ j ≤ n ∧ s4 = .int .i64 m ∧ i = .int .i64 j ∧ Hid (Stands y t q j) ∧ Hid (Small v m) ∧ Hid (JiAt wr G t q v) ∧ Hid (Below w.heap.size w wr)) (fun _ i _ => n - (intOf i).toNat)
  case atStart =>
    have h1 : Hid (Stands y false 0 0) := ⟨fun _ => rfl, fun h => absurd h (by decide)⟩
    have h2 : Hid (Small 0 0) := by show 0 ≤ 16 * 0 + 7; omega
    exact ⟨0, 0, 0, 0, false, by omega, Nat.zero_le _, rfl, rfl, h1, h2, HM, HB⟩
  case round =>
    clear HM HB
    obtain ⟨m, j, v, q, t, hm, hj, rfl, rfl, HS, HV, HM, HB⟩ := hrel
    by_cases hjn : j < n
    · have i1 : (j : Int) < (n : Int) := by omega
      obtain ⟨ba, oa, rfl, hca⟩ := HX.out (by omega)
      have la := cell_lt (hca j hjn)
      have c1 : wr.cell? ⟨ba, oa + j, none⟩ = some (.int .u8 (y j : Int)) := (HB.out.cell (p := ⟨ba, oa + j, none⟩) la).trans (hca j hjn)
      have hp := HY.out j
      obtain ⟨p, hyp⟩ : ∃ p, y j = p := ⟨_, rfl⟩
      obtain ⟨P, hP⟩ : ∃ P : Nat, 100 * (j : Int) = (P : Int) := ⟨100 * j, by omega⟩
      obtain ⟨N, hN⟩ : ∃ N : Nat, (P : Int) + (p : Int) = (N : Int) := ⟨P + p, by omega⟩
      rw [hyp] at c1 hp
      have hP6 : P < 65536 := by omega
      have e1 : IntKind.i64.wrap (P : Int) = P := HW.out _ (by omega) (by omega)
      have e2 : IntKind.u16.wrap (P : Int) = P := by rw [IntKind.wrap_u16]; omega
      have e3 : IntKind.i64.wrap (p : Int) = p := HW.out _ (by omega) (by omega)
      have e4 : IntKind.i64.wrap (N : Int) = N := HW.out _ (by omega) (by omega)
      have hA : ∀ W, Hid (JiAt W G t q v → Calls Try.prog 9 #[.pointer (some ⟨G, 0, none⟩), .int .u16 (P : Int), .int .i64 (N : Int)] W fun e w' => e = .returned (.tuple #[]) ∧ JiAt w' G true p (Ji.sum t v (Ji.far q p)) ∧ Kept G W w') := fun W hw =>
        (jadd_any G q v P N t W hw (by have : v ≤ 16 * m + 7 := HV.out; omega) hP6).mono fun e w' h => by
          rw [way_at hp hN] at h
          exact ⟨h.1, h.2.1, h.2.2.1⟩
      have HS' : Hid (Stands y true p (j + 1)) := ⟨fun h => absurd h (by omega), fun _ => hyp.symm⟩
      by_cases hj0 : 0 < j
      · obtain ⟨k, hk⟩ : ∃ k, j = k + 1 := ⟨j - 1, by omega⟩
        have k1 : (j : Int) - 1 = (k : Int) := by omega
        have k2 : IntKind.i64.wrap (k : Int) = k := HW.out _ (by omega) (by omega)
        have k3 : (k : Int) < (n : Int) := by omega
        have i2 : (0 : Int) < (j : Int) := by omega
        have lk := cell_lt (hca k (by omega))
        have ck : wr.cell? ⟨ba, oa + k, none⟩ = some (.int .u8 (y k : Int)) := (HB.out.cell (p := ⟨ba, oa + k, none⟩) lk).trans (hca k (by omega))
        have hr := HY.out k
        have hq : q = y k := by
          have := HS.out.2 hj0
          rwa [hk, Nat.add_sub_cancel] at this
        generalize y k = r at *
        subst hq
        obtain ⟨D, hD⟩ : ∃ D, (p : Int) - (q : Int) = D := ⟨_, rfl⟩
        obtain ⟨E, hE⟩ : ∃ E, -D = E := ⟨_, rfl⟩
        obtain ⟨M, hM⟩ : ∃ M, max m D.natAbs = M := ⟨_, rfl⟩
        obtain ⟨u, hu⟩ : ∃ u, Ji.sum t v (Ji.far q p) = u := ⟨_, rfl⟩
        have r1 := fun ts ty W => max_three ts ty m M D E W hE hM
        have g1 : IntKind.i64.wrap D = D := HW.out _ (by omega) (by omega)
        have g2 : IntKind.i64.wrap E = E := HW.out _ (by omega) (by omega)
        have g3 : wrap64 D = D := by unfold wrap64; omega
        have g4 : wrap64 E = E := by unfold wrap64; omega
        have g5 : IntKind.i64.wrap (q : Int) = q := HW.out _ (by omega) (by omega)
        have hM2 : M ≤ 255 := by omega
        have hu2 : u ≤ 16 * M + 7 := by
          rw [← hu]
          refine Ji.sum_le ?_ ?_ t
          · have : v ≤ 16 * m + 7 := HV.out
            omega
          · rw [far_small hr hp, hD]; omega
        have HV' : Hid (Small u M) := hu2
        have HU : Hid (u ≤ 524295) := by show u ≤ 524295; omega
        obtain ⟨V, hV⟩ : ∃ V, u / 16 = V := ⟨_, rfl⟩
        have g6 : IntKind.i64.wrap (V : Int) = V := HW.out _ (by omega) (by omega)
        have g7 : decide ((M : Int) < (V : Int)) = false := by simp; omega
        have g8 : decide (M < V) = false := by simp; omega
        have HVV : Hid (u / 16 = V) := hV
        have HN : Hid (ba ≠ G) := by show ba ≠ G; omega
        rw [hu] at hA
        clear hu hu2 hV hM hk hp hyp hP6 hr HV HS lk la hca
        go_wp2_with fail
        refine ((hA _).out HM.out).mono ?_
        rintro e w3 ⟨rfl, M3, q3⟩
        have HM3 : Hid (JiAt w3 G true p u) := M3
        have HB3 : Hid (Below w.heap.size w w3) := HB.out.trans (q3.below h0 HB.out.size)
        have c3 := q3.cell c1 HN.out
        have c4 := q3.cell ck HN.out
        clear HM HB M3 q3 hA c1 ck HN
        go_wp2_with fail
        go_quiet (fail)
        have HM4 : Hid (JiAt (w3.drewN nq) G true p u) := HM3.out.same ⟨_, rfl⟩
        have HB4 : Hid (Below w.heap.size w (w3.drewN nq)) := HB3.out.trans (below_drews _)
        clear HM3 HB3 c3 c4
        generalize w3.drewN nq = w4 at *
        go_wp2_with fail
        refine (HVV.out ▸ jval_any G p u true _ HM4.out HU.out).mono ?_
        rintro e w5 ⟨rfl, rfl⟩
        go_wp2
        go_roundw
        case rel => exact ⟨M, j + 1, u, p, true, hM2, by omega, rfl, by go_num, HS', HV', HM4, HB4⟩
        case measure => simp [intOf]; omega
      · have i2 : decide ((0 : Int) < (j : Int)) = false := by simp; omega
        have ht : t = false := HS.out.1 (by omega)
        have hv : v ≤ 16 * m + 7 := HV.out
        have HU : Hid (v ≤ 524295) := by show v ≤ 524295; omega
        obtain ⟨V, hV⟩ : ∃ V, v / 16 = V := ⟨_, rfl⟩
        have g6 : IntKind.i64.wrap (V : Int) = V := HW.out _ (by omega) (by omega)
        have g7 : decide ((m : Int) < (V : Int)) = false := by simp; omega
        have g8 : decide (m < V) = false := by simp; omega
        have HVV : Hid (v / 16 = V) := hV
        subst ht
        rw [Ji.sum_first] at hA
        clear hV hv hp hyp hP6 HS la hca
        go_wp2_with fail
        refine ((hA _).out HM.out).mono ?_
        rintro e w3 ⟨rfl, M3, q3⟩
        have HM3 : Hid (JiAt w3 G true p v) := M3
        have HB3 : Hid (Below w.heap.size w w3) := HB.out.trans (q3.below h0 HB.out.size)
        clear HM HB M3 q3 hA c1
        go_wp2_with fail
        refine (HVV.out ▸ jval_any G p v true _ HM3.out HU.out).mono ?_
        rintro e w5 ⟨rfl, rfl⟩
        go_wp2
        go_roundw
        case rel => exact ⟨m, j + 1, v, p, true, hm, by omega, rfl, by go_num, HS', HV, HM3, HB3⟩
        case measure => simp [intOf]; omega
    · obtain rfl : j = n := by omega
      clear HM HS HV
      go_wp2
      go_ret
      exact ⟨rfl, HB.out⟩
theorem walk (a0 : Option Addr) (len0 cap0 : Nat) (z0 : List Int) (w : World) (w0 : IsRow .u8 w a0 len0 cap0 z0) :
    Calls Try.prog 5 #[.slice a0 len0 cap0] w fun e w' => e = .returned (.bool true) ∧ Below w.heap.size w w' := by
  have r0 : CameAs .u8 w a0 len0 cap0 z0 := w0
  obtain ⟨h0, k0⟩ := r0.nums
  by_cases hn : len0 ≤ 60
  · have g0 : NumsAt .u8 w a0 len0 (fun i => ((z0[i]?.getD 0).toNat : Int)) := fun h => by
      obtain ⟨b', o', e, hc⟩ := h0 h
      exact ⟨b', o', e, fun i hi => by rw [hc i hi]; show _ = some (Value.int .u8 ((z0[i]?.getD 0).toNat : Int)); rw [Int.toNat_of_nonneg (range_u8 k0 i).1]⟩
    exact core a0 len0 cap0 _ w g0 hn (fun i => by have := range_u8 k0 i; omega)
  · exact long a0 len0 cap0 w (by omega)

/-! ### THE ROW's STEP: WRITTEN OUT: LEAVE IT -/
set_option maxRecDepth 100000 in
theorem lifted (os : Os) (started : os.Started) (H : Type) (enc : TypeId × Value → H) :
    ReturnsInHanded {} Try.checked os 5 .any (Rows.jitterMostSpec.pre6 enc Try.prog Try.f5 Rows.jitterMostRow.domain false) (Rows.jitterMostSpec.post enc Try.prog Try.f5 false true false false) := by
  refine returnsInHanded_of_change (C := Try.checked) own started (by kernel_rfl) Try.func5
    (ChangeSpec.witness6 (enc := enc) (C := Try.checked) false ⟨#[], #[.slice none 0 0], []⟩ 8 (by kernel_rfl) (by kernel_rfl) (by kernel_rfl) (by kernel_rfl)) ?_
  intro W base args ds gs before hval0 hW hcnd _
  have hval : ∀ (j : Nat) t v, Try.f5.params[j]? = some t → args[j]? = some v → Value.okWide Try.prog W .any base t v := hval0
  have hW' := hW
  obtain ⟨p, q, hA0, hV, rfl, hfz, hnd⟩ := hW
  have hA : DataW.TrodAll enc Try.prog W 0 (fun _ => true) true Try.f5.params.toList args.toList ds p := hA0
  rw [Try.params5] at hA hval
  obtain ⟨v0, vs0, d0, ds0, p0, q0, hargs, rfl, rfl, h0, r0⟩ := trodAll_cons hA
  obtain ⟨rfl, rfl, rfl⟩ := trodAll_nil r0
  obtain rfl : args = #[v0] := by cases args; simp_all
  obtain ⟨rfl, rfl⟩ := trodVars_none hV
  obtain ⟨a0, len0, cap0, rfl⟩ := okWide_slice Try.underlying37 (hval 0 37 v0 rfl rfl)
  have k0 := h0
  have lt0 : ∀ x ∈ p0, x.block < W.heap.size := by obtain ⟨m, hm⟩ := k0; exact DataW.trod_lt m _ _ _ hm
  obtain ⟨z0, w0⟩ : ∃ zs, IsRow .u8 W a0 len0 cap0 zs := by
    obtain ⟨fuel, hf⟩ := h0
    rcases open_ints Try.underlying37 Try.underlying5 (by kernel_rfl) hf with ⟨hcs, _⟩ | ⟨x, l, c, zs, hcs, _, hl, hm, hz, _, hcell, hwz⟩
    · simp [Value.cells] at hcs
      obtain ⟨rfl, rfl, rfl⟩ := hcs
      exact ⟨[], .inl ⟨rfl, rfl, rfl, rfl⟩⟩
    · simp [Value.cells] at hcs
      obtain ⟨rfl, rfl, rfl⟩ := hcs
      exact ⟨zs, .inr ⟨_, rfl, hl, hm, by simpa using hz, hcell, hwz⟩⟩
  clear hA0 hval0
  refine (walk a0 len0 cap0 z0 W w0).mono fun e W' ⟨he, bel⟩ => ?_
  subst he
  exact ⟨_, rfl, _, _, _, [], _, [], hW', trodAll_mk1 (shut_bool Try.underlying4 _), (trodAll_cons_mk (Below.trod laidOut (by kernel_rfl) (of_decide_eq_true (by kernel_rfl)) k0 bel lt0) trodAll_mk0), rfl, bel.frame _, fun h => by cases h⟩

theorem over : Rows.jitterMostRow.holds Try.pinned (OpenSpec.ofChange Rows.jitterMostSpec) :=
  OpenClaim.holds_of_wide 5 Try.f5 rfl rfl rfl rfl rfl rfl rfl ⟨rfl, rfl, rfl, rfl, rfl⟩ rfl rfl rfl rfl rfl (by kernel_rfl) Try.func5 (by kernel_rfl)
    (of_decide_eq_true (by kernel_rfl)) (by unfold Func.isWrapper; first | (rw [if_pos (by decide +kernel)]; kernel_rfl) | (rw [if_neg (by decide +kernel)]; exact ⟨rfl, rfl⟩))
    (fun os started H enc _ => lifted os started H enc)

theorem proved : Rows.JitterMostSaid := over
end Go.Proofs.Ytmgphmjfgoljcaa.jitterMost
namespace Go.Proofs.Ytmgphmjfgoljcaa
theorem jitterMost_holds : Rows.JitterMostSaid := jitterMost.proved
#print axioms jitterMost_holds
end Go.Proofs.Ytmgphmjfgoljcaa

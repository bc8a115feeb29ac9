/-
  Package rank's Of and Worse answer as the document's do, whatever the known ones, the ID and the two wants are (known ones of at most 30 frames of at most 8 refs each are looked at; no condition).
-/
import Derived.Test.YtmbpfdnadjemcaaRows
import Derived.WalkKit
import Derived.ProofKit
import Derived.OpenShut
import Derived.ShutString
import Derived.ChangeOld
import Derived.Below
import Derived.Carry
import Derived.Test.YtmbpfdnadjemcaaOpn
import Derived.Test.YtmbpfdnadjemcaaOpf
import Derived.Test.YtmbpfdnadjemcaaOpw
import Derived.Test.YtmbpfdnadjemcaaRbg
import Derived.Test.YtmbpfdnadjemcaaRkr
import Derived.Test.YtmbpfdnadjemcaaFlt
import Derived.Deep.RegionHeld
namespace Go.Proofs.Ytmbpfdnadjemcaa.rankAll
open Go.ChangeShapes Go.WideShapes Go.ChangeAt Go.RowKit
open Go.ChangeMaps (open_string shut_string)
set_option linter.unusedVariables false

theorem own : ownKnob Try.prog.godebug = none := by kernel_rfl
theorem laidOut : laidOutB Try.prog = true := by kernel_rfl

open Go.Deep

/-- Known ones and two wants in memory. -/
structure Two (w : World) (A B : Nat) (a b : Wt) (r : Option Addr) (m : Nat) (K : Nat → Fr) (W : World) : Prop where
  a : WtAt W A a
  b : WtAt W B b
  frs : FrsAt W r m K
  bel : Below w.heap.size w W
theorem Two.grew {w W W' : World} {A B : Nat} {a b : Wt} {r : Option Addr} {m : Nat} {K : Nat → Fr} (h : Two w A B a b r m K W) (hb : Below W.heap.size W W') : Two w A B a b r m K W' :=
  ⟨h.a.grew hb, h.b.grew hb, h.frs.grew hb, h.bel.trans (hb.mono h.bel.size)⟩
def four (v : Int) (k : Nat) : Int := if k = 0 then v else k
theorem four_at (v : Int) (w : World) (k : Nat) (hk : k < 4) : (w.alloc (.cells #[.int .u32 v, .int .u32 1, .int .u32 2, .int .u32 3] 23)).cell? ⟨w.heap.size, k, none⟩ = some (.int .u32 (four v k)) := by
  rw [World.cell?_alloc_at _ _ _ _ rfl]
  have : k = 0 ∨ k = 1 ∨ k = 2 ∨ k = 3 := by omega
  rcases this with rfl | rfl | rfl | rfl <;> rfl

set_option maxRecDepth 100000 in
set_option maxHeartbeats 2000000 in
theorem walk (r : Option Addr) (m c : Nat) (K : Nat → Fr) (R : Nat → Nat → Int) (v : Int) (a b : Wt) (w : World) (h0 : FrsAt w r m K ∧ (∀ i, i < m → FrIn w (K i) (R i)) ∧ m ≤ c ∧ c ≤ maxLen) (_ : (Lit.int .u32 v).wf = true) :
    Calls Try.prog 4 #[.slice r m c, .int .u32 v, a.val, b.val] w fun e w' => e = .returned (.bool true) ∧ Below w.heap.size w w' := by
  obtain ⟨h1, h2, h3, h4⟩ := h0
  have hm : m ≤ maxLen := Nat.le_trans h3 h4
  have HN : Hid (∀ i, i < m → NumsAt .u32 w (K i).a (K i).n (R i)) := fun i hi => (h2 i hi).2.1
  have HC : Hid (∀ i, i < m → (K i).n ≤ (K i).c) := fun i hi => (h2 i hi).2.2.1
  obtain ⟨x0, e0⟩ : ∃ x, w.alloc (.cells #[.int .u32 a.id, .int .i64 a.r, .int .i64 a.b] 40) = x := ⟨_, rfl⟩
  obtain ⟨x1, e1⟩ : ∃ x, x0.alloc (.cells #[.int .u32 b.id, .int .i64 b.r, .int .i64 b.b] 40) = x := ⟨_, rfl⟩
  have B0 : Below w.heap.size w x0 := e0 ▸ box_below w _
  have B1 : Below x0.heap.size x0 x1 := e1 ▸ box_below x0 _
  have A0 : WtAt x0 w.heap.size a := e0 ▸ WtAt.made w _ a
  have A1 : WtAt x1 x0.heap.size b := e1 ▸ WtAt.made x0 _ b
  have HH : Hid (Two w w.heap.size x0.heap.size a b r m K x1) := ⟨A0.grew B1, A1, (h1.grew B0).grew B1, B0.trans (B1.mono B0.size)⟩
  clear B0 B1 A0 A1 h1 h2 h3 h4
  unfold Wt.val
  go_enter Try.func4, Try.ntmps4
  go_wp2_with fail
  clear e0 e1
  obtain ⟨A, hA⟩ : ∃ A, w.heap.size = A := ⟨_, rfl⟩
  rw [hA] at HH
  rw [hA]
  generalize x0.heap.size = B at *
  refine (begun13 _).mono ?_
  rintro e w1 ⟨rfl, d1⟩
  have HH1 : Hid (Two w A B a b r m K w1) := HH.out.grew d1
  clear HH d1 hA
  go_wp2_with fail
  refine (light_few r m c K w1 hm HH1.out.frs).mono ?_
  rintro e w2 ⟨rfl, li, rfl, hl⟩
  cases li with
  | false =>
    clear hl
    have HB := HH1.out.bel
    go_wp2
    go_ret
    exact ⟨rfl, HB⟩
  | true =>
    obtain ⟨hm30, h8⟩ := hl rfl
    have HR : Hid (RefsAll w m K R) := fun i hi => ⟨HN.out i hi, HC.out i hi, by have := h8 i hi; omega⟩
    clear HN HC h8 hl hm
    obtain ⟨x2, e2⟩ : ∃ x, w2.alloc (.cells #[.int .u32 v, .int .u32 1, .int .u32 2, .int .u32 3] 23) = x := ⟨_, rfl⟩
    have B2 : Below w2.heap.size w2 x2 := e2 ▸ box_below w2 _
    have HH2 : Hid (Two w A B a b r m K x2) := HH1.out.grew B2
    have HR2 : Hid (RefsAll x2 m K R) := HR.out.grew HH2.out.bel
    have HF : Hid (∀ k, k < 4 → x2.cell? ⟨w2.heap.size, k, none⟩ = some (.int .u32 (four v k))) := by
      show ∀ k, k < 4 → x2.cell? ⟨w2.heap.size, k, none⟩ = some (.int .u32 (four v k))
      rw [← e2]; exact four_at v w2
    clear B2 HH1 HR
    go_wp2_with fail
    clear e2
    generalize w2.heap.size = N at *
    go_loopw [10] (fun i wr => ∃ k : Nat, k ≤ 4 ∧ i = .int .i64 k ∧ Hid (Below x2.heap.size x2 wr)) (fun i _ => 4 - (intOf i).toNat)
    case atStart => exact ⟨0, by decide, rfl, Below.refl _ _⟩
    case round =>
      obtain ⟨k, hk, rfl, hb⟩ := hrel
      by_cases hk4 : k < 4
      · have i1 : (k : Int) < 4 := by omega
        have HK : Hid (Two w A B a b r m K wr) := HH2.out.grew hb.out
        have c1 := (hb.out.cell (p := ⟨N, k, none⟩) (cell_lt (HF.out k hk4))).trans (HF.out k hk4)
        generalize four v k = y at c1
        obtain ⟨X, p, hX⟩ : ∃ X p, rk m K R y = (X, p) := ⟨_, _, rfl⟩
        have HX : Hid (rk m K R y = (X, p)) := hX
        clear hX
        go_wp2_with fail
        refine (rank_is HX.out (by omega) HK.out.frs (HR2.out.grew hb.out)).mono ?_
        rintro e w3 ⟨rfl, d3⟩
        have HK3 : Hid (Two w A B a b r m K w3) := HK.out.grew d3
        have HB3 : Hid (Below x2.heap.size x2 w3) := hb.out.trans (d3.mono hb.out.size)
        have c2 := (d3.cell (p := ⟨N, k, none⟩) (cell_lt c1)).trans c1
        clear c1 d3 HK hb
        go_wp2_with fail
        refine (rrank_any r m c K R y _ (by omega) HK3.out.frs (HR2.out.grew HB3.out)).mono ?_
        rintro e w4 ⟨rfl, d4⟩
        have HB4 : Hid (Below x2.heap.size x2 w4) := HB3.out.trans (d4.mono HB3.out.size)
        rw [HX.out]
        clear c2 d4 HK3 HB3
        go_wp2_with fail
        go_roundw
        case rel => exact ⟨k + 1, by omega, by go_num, HB4⟩
        case measure => simp [intOf]; omega
      · have i1 : decide ((k : Int) < 4) = false := by simp; omega
        obtain ⟨W, hW⟩ : ∃ W, a.worse b = W := ⟨_, rfl⟩
        have HW : Hid (a.worse b = W) := hW
        have HK : Hid (Two w A B a b r m K wr.drew) := HH2.out.grew hb.out.drew
        clear hW hb
        go_wp2_with fail
        refine wp_region_held (S := Two w A B a b r m K) (by kernel_rfl) ?_
        change wpAnyH _ _ _ _ _ _ _ _ wr.drew
        have hr := HK.out
        clear HK
        generalize wr.drew = w3 at *
        refine wpAnyH_take (i := 0) (v := .agg #[.int .u32 a.id, .int .i64 a.r, .int .i64 a.b]) rfl (by kernel_rfl) (by kernel_rfl) (by kernel_rfl) (fun _ _ _ h => h) (Or.inl ⟨by kernel_rfl, fun W hW => by have g0 := hW.a.c0; have g1 := hW.a.c1; have g2 := hW.a.c2; go_simp⟩) hr ?_
        refine wpAnyH_take (i := 1) (v := .agg #[.int .u32 b.id, .int .i64 b.r, .int .i64 b.b]) rfl (by kernel_rfl) (by kernel_rfl) (by kernel_rfl) (fun _ _ _ h => h) (Or.inl ⟨by kernel_rfl, fun W hW => by have g0 := hW.b.c0; have g1 := hW.b.c1; have g2 := hW.b.c2; go_simp⟩) hr ?_
        refine wpAnyH_take (i := 3) (v := .agg #[.int .u32 a.id, .int .i64 a.r, .int .i64 a.b]) rfl (by kernel_rfl) (by kernel_rfl) (by kernel_rfl) (fun _ _ _ h => h) (Or.inl ⟨by kernel_rfl, fun W hW => by have g0 := hW.a.c0; have g1 := hW.a.c1; have g2 := hW.a.c2; go_simp⟩) hr ?_
        refine wpAnyH_take (i := 4) (v := .agg #[.int .u32 b.id, .int .i64 b.r, .int .i64 b.b]) rfl (by kernel_rfl) (by kernel_rfl) (by kernel_rfl) (fun _ _ _ h => h) (Or.inl ⟨by kernel_rfl, fun W hW => by have g0 := hW.b.c0; have g1 := hW.b.c1; have g2 := hW.b.c2; go_simp⟩) hr ?_
        refine wpAnyH_ready (rs := [2]) (by kernel_rfl) (by simp) ?_
        refine AllReadyH.cons rfl (fun K2 hK2 => ?_) AllReadyH.nil
        go_simp
        refine Calls.mono (worse_is (a := a) (b := b) HW.out _) ?_
        rintro e w4 ⟨rfl, d4⟩
        have hr := hr.grew d4
        refine hK2.out _ _ hr (fun hr => ?_)
        clear hK2 K2 d4
        refine wpAnyH_ready (rs := [5]) (by kernel_rfl) (by simp) ?_
        refine AllReadyH.cons rfl (fun K2 hK2 => ?_) AllReadyH.nil
        go_simp
        refine Calls.mono (HW.out ▸ rworse_any a b w4) ?_
        rintro e w5 ⟨rfl, d5⟩
        have hr := hr.grew d5
        refine hK2.out _ _ hr (fun hr => ?_)
        clear hK2 K2 d5
        refine wpAnyH_take (i := 6) (v := .bool true) rfl (by kernel_rfl) (by kernel_rfl) (by kernel_rfl) (fun _ _ _ h => h) (Yields.yieldsIf (Or.inl ⟨by kernel_rfl, fun _ => by go_simp⟩)) hr ?_
        refine wpAnyH_take (i := 7) (v := .bool true) rfl (by kernel_rfl) (by kernel_rfl) (by kernel_rfl) (fun _ _ _ h => h) (Yields.yieldsIf (Or.inl ⟨by kernel_rfl, fun _ => by kernel_rfl⟩)) hr ?_
        refine wpAnyH_done (by kernel_rfl) ?_ _
        have HB := hr.bel
        clear hr
        go_wp2
        go_ret
        exact ⟨rfl, HB⟩

set_option maxRecDepth 100000 in
theorem lifted (os : Os) (started : os.Started) (H : Type) (enc : TypeId × Value → H) :
    ReturnsInHanded {} Try.checked os 4 .any (Rows.rankAllSpec.pre6 enc Try.prog Try.f4 Rows.rankAllRow.domain false) (Rows.rankAllSpec.post enc Try.prog Try.f4 false true false false) := by
  refine returnsInHanded_of_change (C := Try.checked) own started (by kernel_rfl) Try.func4
    (ChangeSpec.witness6 (enc := enc) (C := Try.checked) false ⟨#[], #[.slice none 0 0, .int .u32 0, .agg #[.int .u32 0, .int .i64 0, .int .i64 0], .agg #[.int .u32 0, .int .i64 0, .int .i64 0]], []⟩ 8 (by kernel_rfl) (by kernel_rfl) (by kernel_rfl) (by kernel_rfl)) ?_
  intro W base args ds gs before hval0 hW hcnd _
  have hval : ∀ (j : Nat) t v, Try.f4.params[j]? = some t → args[j]? = some v → Value.okWide Try.prog W .any base t v := hval0
  have hW' := hW
  obtain ⟨p, q, hA0, hV, rfl, hfz, hnd⟩ := hW
  have hA : DataW.TrodAll enc Try.prog W 0 (fun _ => true) true Try.f4.params.toList args.toList ds p := hA0
  rw [Try.params4] at hA hval
  obtain ⟨v0, vs0, d0, ds0, p0, q0, hargs, rfl, rfl, h0, r0⟩ := trodAll_cons hA
  obtain ⟨v1, vs1, d1, ds1, p1, q1, rfl, rfl, rfl, h1, r1⟩ := trodAll_cons r0
  obtain ⟨v2, vs2, d2, ds2, p2, q2, rfl, rfl, rfl, h2, r2⟩ := trodAll_cons r1
  obtain ⟨v3, vs3, d3, ds3, p3, q3, rfl, rfl, rfl, h3, r3⟩ := trodAll_cons r2
  obtain ⟨rfl, rfl, rfl⟩ := trodAll_nil r3
  obtain rfl : args = #[v0, v1, v2, v3] := by cases args; simp_all
  obtain ⟨rfl, rfl⟩ := trodVars_none hV
  obtain ⟨a0, len0, cap0, rfl⟩ := okWide_slice Try.underlying30 (hval 0 30 v0 rfl rfl)
  have k0 := h0
  have lt0 : ∀ x ∈ p0, x.block < W.heap.size := by obtain ⟨m, hm⟩ := k0; exact DataW.trod_lt m _ _ _ hm
  obtain ⟨K0, R0, w0⟩ := open_frames h0
  obtain ⟨a1, rfl, rfl, rfl, w1⟩ := open_int Try.underlying23 (hval 1 23 v1 rfl rfl) h1
  have k2 := h2
  have lt2 : ∀ x ∈ p2, x.block < W.heap.size := by obtain ⟨m, hm⟩ := k2; exact DataW.trod_lt m _ _ _ hm
  obtain ⟨A2, rfl⟩ := open_want (hval 2 40 v2 rfl rfl) h2
  have k3 := h3
  have lt3 : ∀ x ∈ p3, x.block < W.heap.size := by obtain ⟨m, hm⟩ := k3; exact DataW.trod_lt m _ _ _ hm
  obtain ⟨A3, rfl⟩ := open_want (hval 3 40 v3 rfl rfl) h3
  clear hA0 hval0
  refine (walk a0 len0 cap0 K0 R0 a1 A2 A3 W w0 w1).mono fun e W' ⟨he, bel⟩ => ?_
  subst he
  exact ⟨_, rfl, _, _, _, [], _, [], hW', trodAll_mk1 (shut_bool Try.underlying4 _), (trodAll_cons_mk (Below.trod laidOut (by kernel_rfl) (of_decide_eq_true (by kernel_rfl)) k0 bel lt0) (trodAll_cons_mk (shut_int Try.underlying23 w1) (trodAll_cons_mk (Below.trod laidOut (by kernel_rfl) (of_decide_eq_true (by kernel_rfl)) k2 bel lt2) (trodAll_cons_mk (Below.trod laidOut (by kernel_rfl) (of_decide_eq_true (by kernel_rfl)) k3 bel lt3) trodAll_mk0)))), rfl, bel.frame _, fun h => by cases h⟩

theorem over : Rows.rankAllRow.holds Try.pinned (OpenSpec.ofChange Rows.rankAllSpec) :=
  OpenClaim.holds_of_wide 4 Try.f4 rfl rfl rfl rfl rfl rfl rfl ⟨rfl, rfl, rfl, rfl, rfl⟩ rfl rfl rfl rfl rfl (by kernel_rfl) Try.func4 (by kernel_rfl)
    (of_decide_eq_true (by kernel_rfl)) (by unfold Func.isWrapper; first | (rw [if_pos (by decide +kernel)]; kernel_rfl) | (rw [if_neg (by decide +kernel)]; exact ⟨rfl, rfl⟩))
    (fun os started H enc _ => lifted os started H enc)

theorem proved : Rows.RankAllSaid := over
end Go.Proofs.Ytmbpfdnadjemcaa.rankAll
namespace Go.Proofs.Ytmbpfdnadjemcaa
theorem rankAll_holds : Rows.RankAllSaid := rankAll.proved
#print axioms rankAll_holds
end Go.Proofs.Ytmbpfdnadjemcaa

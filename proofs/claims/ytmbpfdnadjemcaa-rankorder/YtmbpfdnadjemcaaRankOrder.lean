/-
  Of two unlike wants just one is worse, and worse than worse is worse: the call returns true, whatever the three wants are (no condition).
-/
import Derived.Test.YtmbpfdnadjemcaaRows
import Derived.WalkKit
import Derived.ProofKit
import Derived.OpenShut
import Derived.ShutString
import Derived.ChangeOld
import Derived.Below
import Derived.Carry
import Derived.Test.YtmbpfdnadjemcaaOpn
import Derived.Test.YtmbpfdnadjemcaaOpw
import Derived.Test.YtmbpfdnadjemcaaRbg
import Derived.Deep.RegionHeld
namespace Go.Proofs.Ytmbpfdnadjemcaa.rankOrder
open Go.ChangeShapes Go.WideShapes Go.ChangeAt Go.RowKit
open Go.ChangeMaps (open_string shut_string)
set_option linter.unusedVariables false

theorem own : ownKnob Try.prog.godebug = none := by kernel_rfl
theorem laidOut : laidOutB Try.prog = true := by kernel_rfl

open Go.Deep

/-- Three wants in memory. -/
structure Three (w : World) (A B C : Nat) (a b c : Wt) (W : World) : Prop where
  a : WtAt W A a
  b : WtAt W B b
  c : WtAt W C c
  bel : Below w.heap.size w W
theorem Three.grew {w W W' : World} {A B C : Nat} {a b c : Wt} (h : Three w A B C a b c W) (hb : Below W.heap.size W W') : Three w A B C a b c W' :=
  ⟨h.a.grew hb, h.b.grew hb, h.c.grew hb, h.bel.trans (hb.mono h.bel.size)⟩
theorem worse_not {a b : Wt} (h : a.r = b.r) (h2 : a.id = b.id) : a.worse b = false ∧ b.worse a = false := by simp [Wt.worse, h, h2]
theorem worse_one {a b : Wt} (h : ¬ (a.r = b.r ∧ a.id = b.id)) : b.worse a = !a.worse b := by
  unfold Wt.worse
  by_cases h1 : a.r = b.r
  · have h2 : ¬ a.id = b.id := fun e => h ⟨h1, e⟩
    simp only [h1, beq_self_eq_true, Bool.true_and]
    by_cases h3 : a.id < b.id
    · have : ¬ b.id < a.id := by omega
      simp [h3, this]
    · have : b.id < a.id := by omega
      simp [h3, this]
  · have e1 : (a.r == b.r) = false := by simpa using h1
    have e2 : (b.r == a.r) = false := by simp; omega
    simp only [e1, e2, Bool.false_and, Bool.or_false]
    by_cases h3 : a.r < b.r
    · have : ¬ b.r < a.r := by omega
      simp [h3, this]
    · have : b.r < a.r := by omega
      simp [h3, this]
theorem worse_on {a b c : Wt} (h1 : a.worse b = true) (h2 : b.worse c = true) : a.worse c = true := by
  simp [Wt.worse] at h1 h2 ⊢
  omega

set_option maxRecDepth 100000 in
set_option maxHeartbeats 2000000 in
theorem same3 (a b c : Wt) (w : World) (h1 : a.r = b.r) (h2 : a.id = b.id) : Calls Try.prog 6 #[a.val, b.val, c.val] w fun e w' => e = .returned (.bool true) ∧ Below w.heap.size w w' := by
  have Hab : Hid (a.worse b = false) := (worse_not h1 h2).1
  have Hba : Hid (b.worse a = false) := (worse_not h1 h2).2
  have i1 : (a.r == b.r) = true := by simp [h1]
  have i2 : (a.id == b.id) = true := by simp [h2]
  clear h1 h2
  obtain ⟨x0, e0⟩ : ∃ x, w.alloc (.cells #[.int .u32 a.id, .int .i64 a.r, .int .i64 a.b] 40) = x := ⟨_, rfl⟩
  obtain ⟨x1, e1⟩ : ∃ x, x0.alloc (.cells #[.int .u32 b.id, .int .i64 b.r, .int .i64 b.b] 40) = x := ⟨_, rfl⟩
  obtain ⟨x2, e2⟩ : ∃ x, x1.alloc (.cells #[.int .u32 c.id, .int .i64 c.r, .int .i64 c.b] 40) = x := ⟨_, rfl⟩
  have B0 : Below w.heap.size w x0 := e0 ▸ box_below w _
  have B1 : Below x0.heap.size x0 x1 := e1 ▸ box_below x0 _
  have B2 : Below x1.heap.size x1 x2 := e2 ▸ box_below x1 _
  have A0 : WtAt x0 w.heap.size a := e0 ▸ WtAt.made w _ a
  have A1 : WtAt x1 x0.heap.size b := e1 ▸ WtAt.made x0 _ b
  have A2 : WtAt x2 x1.heap.size c := e2 ▸ WtAt.made x1 _ c
  have HH : Hid (Three w w.heap.size x0.heap.size x1.heap.size a b c x2) := ⟨(A0.grew B1).grew B2, A1.grew B2, A2, (B0.trans (B1.mono B0.size)).trans (B2.mono (Nat.le_trans B0.size B1.size))⟩
  clear B0 B1 B2 A0 A1 A2
  unfold Wt.val
  go_enter Try.func6, Try.ntmps6
  go_wp2_with fail
  clear e0 e1 e2
  generalize w.heap.size = A at *
  generalize x0.heap.size = B at *
  generalize x1.heap.size = C at *
  refine (begun13 _).mono ?_
  rintro e w1 ⟨rfl, d1⟩
  have HH1 : Hid (Three w A B C a b c w1) := HH.out.grew d1
  have HH2 : Hid (Three w A B C a b c w1.drew) := HH.out.grew d1.drew
  obtain ⟨p0, p1, p2⟩ := HH1.out.a
  obtain ⟨q0, q1, q2⟩ := HH1.out.b
  clear HH d1
  go_wp2_with fail
  clear p0 p1 p2 q0 q1 q2 HH1
  refine wp_region_held (S := Three w A B C a b c) (by kernel_rfl) ?_
  change wpAnyH _ _ _ _ _ _ _ _ w1.drew
  have hr := HH2.out
  clear HH2
  generalize w1.drew = w2 at *
  refine wpAnyH_take (i := 0) (v := .agg #[.int .u32 a.id, .int .i64 a.r, .int .i64 a.b]) rfl (by kernel_rfl) (by kernel_rfl) (by kernel_rfl) (fun _ _ _ h => h) (Or.inl ⟨by kernel_rfl, fun W hW => by have g0 := hW.a.c0; have g1 := hW.a.c1; have g2 := hW.a.c2; go_simp⟩) hr ?_
  refine wpAnyH_take (i := 1) (v := .agg #[.int .u32 b.id, .int .i64 b.r, .int .i64 b.b]) rfl (by kernel_rfl) (by kernel_rfl) (by kernel_rfl) (fun _ _ _ h => h) (Or.inl ⟨by kernel_rfl, fun W hW => by have g0 := hW.b.c0; have g1 := hW.b.c1; have g2 := hW.b.c2; go_simp⟩) hr ?_
  refine wpAnyH_take (i := 3) (v := .agg #[.int .u32 b.id, .int .i64 b.r, .int .i64 b.b]) rfl (by kernel_rfl) (by kernel_rfl) (by kernel_rfl) (fun _ _ _ h => h) (Or.inl ⟨by kernel_rfl, fun W hW => by have g0 := hW.b.c0; have g1 := hW.b.c1; have g2 := hW.b.c2; go_simp⟩) hr ?_
  refine wpAnyH_take (i := 4) (v := .agg #[.int .u32 a.id, .int .i64 a.r, .int .i64 a.b]) rfl (by kernel_rfl) (by kernel_rfl) (by kernel_rfl) (fun _ _ _ h => h) (Or.inl ⟨by kernel_rfl, fun W hW => by have g0 := hW.a.c0; have g1 := hW.a.c1; have g2 := hW.a.c2; go_simp⟩) hr ?_
  refine wpAnyH_ready (rs := [2]) (by kernel_rfl) (by simp) ?_
  refine AllReadyH.cons rfl (fun K2 hK2 => ?_) AllReadyH.nil
  go_simp
  refine Calls.mono (worse_is (a := a) (b := b) (B := false) Hab.out _) ?_
  rintro e w3 ⟨rfl, d3⟩
  have hr := hr.grew d3
  refine hK2.out _ _ hr (fun hr => ?_)
  clear hK2 K2 d3
  refine wpAnyH_ready (rs := [5]) (by kernel_rfl) (by simp) ?_
  refine AllReadyH.cons rfl (fun K2 hK2 => ?_) AllReadyH.nil
  go_simp
  refine Calls.mono (worse_is (a := b) (b := a) (B := false) Hba.out _) ?_
  rintro e w4 ⟨rfl, d4⟩
  have hr := hr.grew d4
  refine hK2.out _ _ hr (fun hr => ?_)
  clear hK2 K2 d4
  refine wpAnyH_take (i := 6) (v := .bool false) rfl (by kernel_rfl) (by kernel_rfl) (by kernel_rfl) (fun _ _ _ h => h) (Yields.yieldsIf (Or.inl ⟨by kernel_rfl, fun _ => by go_simp⟩)) hr ?_
  refine wpAnyH_take (i := 7) (v := .bool false) rfl (by kernel_rfl) (by kernel_rfl) (by kernel_rfl) (fun _ _ _ h => h) (Yields.yieldsIf (Or.inl ⟨by kernel_rfl, fun _ => by kernel_rfl⟩)) hr ?_
  refine wpAnyH_done (by kernel_rfl) ?_ _
  have HH4 : Hid (Three w A B C a b c w4) := hr
  clear hr
  generalize w4 = v0 at *
  obtain ⟨p0, p1, p2⟩ := HH4.out.a
  obtain ⟨q0, q1, q2⟩ := HH4.out.b
  go_wp2_with fail
  clear p0 p1 p2 q0 q1 q2
  refine (worse_is (a := a) (b := b) (B := false) Hab.out _).mono ?_
  rintro e v1 ⟨rfl, d1⟩
  have HH5 : Hid (Three w A B C a b c v1) := HH4.out.grew d1
  clear d1 HH4
  obtain ⟨p0, p1, p2⟩ := HH5.out.a
  obtain ⟨q0, q1, q2⟩ := HH5.out.b
  obtain ⟨r0, r1, r2⟩ := HH5.out.c
  go_wp2_with fail
  clear p0 p1 p2 q0 q1 q2
  refine (worse_is (a := a) (b := b) (B := false) Hab.out _).mono ?_
  rintro e v2 ⟨rfl, d2⟩
  have HH6 : Hid (Three w A B C a b c v2) := HH5.out.grew d2
  clear d2 HH5
  obtain ⟨p0, p1, p2⟩ := HH6.out.a
  obtain ⟨q0, q1, q2⟩ := HH6.out.b
  obtain ⟨r0, r1, r2⟩ := HH6.out.c
  go_wp2
  go_ret
  exact ⟨rfl, HH6.out.bel⟩
set_option maxRecDepth 100000 in
set_option maxHeartbeats 2000000 in
theorem rank3true (a b c : Wt) (w : World) (h1 : a.r = b.r) (h2 : ¬ a.id = b.id) (hP : a.worse b = true) : Calls Try.prog 6 #[a.val, b.val, c.val] w fun e w' => e = .returned (.bool true) ∧ Below w.heap.size w w' := by
  have H1 : Hid (b.worse a = !a.worse b) := worse_one fun h => h2 h.2
  have i1 : (a.r == b.r) = true := by simp [h1]
  have i2 : (a.id == b.id) = false := by simpa using h2
  clear h1 h2
  have Hab : Hid (a.worse b = true) := hP
  have Hba : Hid (b.worse a = false) := by
    show b.worse a = false
    rw [H1.out, hP]; rfl
  clear H1 hP
  obtain ⟨x0, e0⟩ : ∃ x, w.alloc (.cells #[.int .u32 a.id, .int .i64 a.r, .int .i64 a.b] 40) = x := ⟨_, rfl⟩
  obtain ⟨x1, e1⟩ : ∃ x, x0.alloc (.cells #[.int .u32 b.id, .int .i64 b.r, .int .i64 b.b] 40) = x := ⟨_, rfl⟩
  obtain ⟨x2, e2⟩ : ∃ x, x1.alloc (.cells #[.int .u32 c.id, .int .i64 c.r, .int .i64 c.b] 40) = x := ⟨_, rfl⟩
  have B0 : Below w.heap.size w x0 := e0 ▸ box_below w _
  have B1 : Below x0.heap.size x0 x1 := e1 ▸ box_below x0 _
  have B2 : Below x1.heap.size x1 x2 := e2 ▸ box_below x1 _
  have A0 : WtAt x0 w.heap.size a := e0 ▸ WtAt.made w _ a
  have A1 : WtAt x1 x0.heap.size b := e1 ▸ WtAt.made x0 _ b
  have A2 : WtAt x2 x1.heap.size c := e2 ▸ WtAt.made x1 _ c
  have HH : Hid (Three w w.heap.size x0.heap.size x1.heap.size a b c x2) := ⟨(A0.grew B1).grew B2, A1.grew B2, A2, (B0.trans (B1.mono B0.size)).trans (B2.mono (Nat.le_trans B0.size B1.size))⟩
  clear B0 B1 B2 A0 A1 A2
  unfold Wt.val
  go_enter Try.func6, Try.ntmps6
  go_wp2_with fail
  clear e0 e1 e2
  generalize w.heap.size = A at *
  generalize x0.heap.size = B at *
  generalize x1.heap.size = C at *
  refine (begun13 _).mono ?_
  rintro e w1 ⟨rfl, d1⟩
  have HH1 : Hid (Three w A B C a b c w1) := HH.out.grew d1
  have HH2 : Hid (Three w A B C a b c w1.drew) := HH.out.grew d1.drew
  obtain ⟨p0, p1, p2⟩ := HH1.out.a
  obtain ⟨q0, q1, q2⟩ := HH1.out.b
  clear HH d1
  go_wp2_with fail
  clear p0 p1 p2 q0 q1 q2 HH1
  refine wp_region_held (S := Three w A B C a b c) (by kernel_rfl) ?_
  change wpAnyH _ _ _ _ _ _ _ _ w1.drew
  have hr := HH2.out
  clear HH2
  generalize w1.drew = w2 at *
  refine wpAnyH_take (i := 0) (v := .agg #[.int .u32 a.id, .int .i64 a.r, .int .i64 a.b]) rfl (by kernel_rfl) (by kernel_rfl) (by kernel_rfl) (fun _ _ _ h => h) (Or.inl ⟨by kernel_rfl, fun W hW => by have g0 := hW.a.c0; have g1 := hW.a.c1; have g2 := hW.a.c2; go_simp⟩) hr ?_
  refine wpAnyH_take (i := 1) (v := .agg #[.int .u32 b.id, .int .i64 b.r, .int .i64 b.b]) rfl (by kernel_rfl) (by kernel_rfl) (by kernel_rfl) (fun _ _ _ h => h) (Or.inl ⟨by kernel_rfl, fun W hW => by have g0 := hW.b.c0; have g1 := hW.b.c1; have g2 := hW.b.c2; go_simp⟩) hr ?_
  refine wpAnyH_take (i := 3) (v := .agg #[.int .u32 b.id, .int .i64 b.r, .int .i64 b.b]) rfl (by kernel_rfl) (by kernel_rfl) (by kernel_rfl) (fun _ _ _ h => h) (Or.inl ⟨by kernel_rfl, fun W hW => by have g0 := hW.b.c0; have g1 := hW.b.c1; have g2 := hW.b.c2; go_simp⟩) hr ?_
  refine wpAnyH_take (i := 4) (v := .agg #[.int .u32 a.id, .int .i64 a.r, .int .i64 a.b]) rfl (by kernel_rfl) (by kernel_rfl) (by kernel_rfl) (fun _ _ _ h => h) (Or.inl ⟨by kernel_rfl, fun W hW => by have g0 := hW.a.c0; have g1 := hW.a.c1; have g2 := hW.a.c2; go_simp⟩) hr ?_
  refine wpAnyH_ready (rs := [2]) (by kernel_rfl) (by simp) ?_
  refine AllReadyH.cons rfl (fun K2 hK2 => ?_) AllReadyH.nil
  go_simp
  refine Calls.mono (worse_is (a := a) (b := b) (B := true) Hab.out _) ?_
  rintro e w3 ⟨rfl, d3⟩
  have hr := hr.grew d3
  refine hK2.out _ _ hr (fun hr => ?_)
  clear hK2 K2 d3
  refine wpAnyH_ready (rs := [5]) (by kernel_rfl) (by simp) ?_
  refine AllReadyH.cons rfl (fun K2 hK2 => ?_) AllReadyH.nil
  go_simp
  refine Calls.mono (worse_is (a := b) (b := a) (B := false) Hba.out _) ?_
  rintro e w4 ⟨rfl, d4⟩
  have hr := hr.grew d4
  refine hK2.out _ _ hr (fun hr => ?_)
  clear hK2 K2 d4
  refine wpAnyH_take (i := 6) (v := .bool true) rfl (by kernel_rfl) (by kernel_rfl) (by kernel_rfl) (fun _ _ _ h => h) (Yields.yieldsIf (Or.inl ⟨by kernel_rfl, fun _ => by go_simp⟩)) hr ?_
  refine wpAnyH_take (i := 7) (v := .bool true) rfl (by kernel_rfl) (by kernel_rfl) (by kernel_rfl) (fun _ _ _ h => h) (Yields.yieldsIf (Or.inl ⟨by kernel_rfl, fun _ => by kernel_rfl⟩)) hr ?_
  refine wpAnyH_done (by kernel_rfl) ?_ _
  have HH4 : Hid (Three w A B C a b c w4) := hr
  clear hr
  generalize w4 = v0 at *
  by_cases hR : b.worse c = true
  · have Hbc : Hid (b.worse c = true) := hR
    have Hac : Hid (a.worse c = true) := worse_on Hab.out hR
    clear hR
    obtain ⟨p0, p1, p2⟩ := HH4.out.a
    obtain ⟨q0, q1, q2⟩ := HH4.out.b
    go_wp2_with fail
    clear p0 p1 p2 q0 q1 q2
    refine (worse_is (a := a) (b := b) (B := true) Hab.out _).mono ?_
    rintro e v1 ⟨rfl, d1⟩
    have HH5 : Hid (Three w A B C a b c v1) := HH4.out.grew d1
    clear d1 HH4
    obtain ⟨p0, p1, p2⟩ := HH5.out.a
    obtain ⟨q0, q1, q2⟩ := HH5.out.b
    obtain ⟨r0, r1, r2⟩ := HH5.out.c
    go_wp2_with fail
    clear p0 p1 p2 q0 q1 q2 r0 r1 r2
    refine (worse_is (a := b) (b := c) (B := true) Hbc.out _).mono ?_
    rintro e v2 ⟨rfl, d2⟩
    have HH6 : Hid (Three w A B C a b c v2) := HH5.out.grew d2
    clear d2 HH5
    obtain ⟨p0, p1, p2⟩ := HH6.out.a
    obtain ⟨q0, q1, q2⟩ := HH6.out.b
    obtain ⟨r0, r1, r2⟩ := HH6.out.c
    go_wp2_with fail
    clear p0 p1 p2 q0 q1 q2 r0 r1 r2
    refine (worse_is (a := a) (b := c) (B := true) Hac.out _).mono ?_
    rintro e v3 ⟨rfl, d3⟩
    have HH7 : Hid (Three w A B C a b c v3) := HH6.out.grew d3
    clear d3 HH6
    obtain ⟨p0, p1, p2⟩ := HH7.out.a
    obtain ⟨q0, q1, q2⟩ := HH7.out.b
    obtain ⟨r0, r1, r2⟩ := HH7.out.c
    go_wp2
    go_ret
    exact ⟨rfl, HH7.out.bel⟩
  · have Hbc : Hid (b.worse c = false) := by
      show b.worse c = false
      simpa using hR
    clear hR
    obtain ⟨p0, p1, p2⟩ := HH4.out.a
    obtain ⟨q0, q1, q2⟩ := HH4.out.b
    go_wp2_with fail
    clear p0 p1 p2 q0 q1 q2
    refine (worse_is (a := a) (b := b) (B := true) Hab.out _).mono ?_
    rintro e v1 ⟨rfl, d1⟩
    have HH5 : Hid (Three w A B C a b c v1) := HH4.out.grew d1
    clear d1 HH4
    obtain ⟨p0, p1, p2⟩ := HH5.out.a
    obtain ⟨q0, q1, q2⟩ := HH5.out.b
    obtain ⟨r0, r1, r2⟩ := HH5.out.c
    go_wp2_with fail
    clear p0 p1 p2 q0 q1 q2 r0 r1 r2
    refine (worse_is (a := b) (b := c) (B := false) Hbc.out _).mono ?_
    rintro e v2 ⟨rfl, d2⟩
    have HH6 : Hid (Three w A B C a b c v2) := HH5.out.grew d2
    clear d2 HH5
    obtain ⟨p0, p1, p2⟩ := HH6.out.a
    obtain ⟨q0, q1, q2⟩ := HH6.out.b
    obtain ⟨r0, r1, r2⟩ := HH6.out.c
    go_wp2
    go_ret
    exact ⟨rfl, HH6.out.bel⟩
set_option maxRecDepth 100000 in
set_option maxHeartbeats 2000000 in
theorem rank3false (a b c : Wt) (w : World) (h1 : a.r = b.r) (h2 : ¬ a.id = b.id) (hP : a.worse b = false) : Calls Try.prog 6 #[a.val, b.val, c.val] w fun e w' => e = .returned (.bool true) ∧ Below w.heap.size w w' := by
  have H1 : Hid (b.worse a = !a.worse b) := worse_one fun h => h2 h.2
  have i1 : (a.r == b.r) = true := by simp [h1]
  have i2 : (a.id == b.id) = false := by simpa using h2
  clear h1 h2
  have Hab : Hid (a.worse b = false) := hP
  have Hba : Hid (b.worse a = true) := by
    show b.worse a = true
    rw [H1.out, hP]; rfl
  clear H1 hP
  obtain ⟨x0, e0⟩ : ∃ x, w.alloc (.cells #[.int .u32 a.id, .int .i64 a.r, .int .i64 a.b] 40) = x := ⟨_, rfl⟩
  obtain ⟨x1, e1⟩ : ∃ x, x0.alloc (.cells #[.int .u32 b.id, .int .i64 b.r, .int .i64 b.b] 40) = x := ⟨_, rfl⟩
  obtain ⟨x2, e2⟩ : ∃ x, x1.alloc (.cells #[.int .u32 c.id, .int .i64 c.r, .int .i64 c.b] 40) = x := ⟨_, rfl⟩
  have B0 : Below w.heap.size w x0 := e0 ▸ box_below w _
  have B1 : Below x0.heap.size x0 x1 := e1 ▸ box_below x0 _
  have B2 : Below x1.heap.size x1 x2 := e2 ▸ box_below x1 _
  have A0 : WtAt x0 w.heap.size a := e0 ▸ WtAt.made w _ a
  have A1 : WtAt x1 x0.heap.size b := e1 ▸ WtAt.made x0 _ b
  have A2 : WtAt x2 x1.heap.size c := e2 ▸ WtAt.made x1 _ c
  have HH : Hid (Three w w.heap.size x0.heap.size x1.heap.size a b c x2) := ⟨(A0.grew B1).grew B2, A1.grew B2, A2, (B0.trans (B1.mono B0.size)).trans (B2.mono (Nat.le_trans B0.size B1.size))⟩
  clear B0 B1 B2 A0 A1 A2
  unfold Wt.val
  go_enter Try.func6, Try.ntmps6
  go_wp2_with fail
  clear e0 e1 e2
  generalize w.heap.size = A at *
  generalize x0.heap.size = B at *
  generalize x1.heap.size = C at *
  refine (begun13 _).mono ?_
  rintro e w1 ⟨rfl, d1⟩
  have HH1 : Hid (Three w A B C a b c w1) := HH.out.grew d1
  have HH2 : Hid (Three w A B C a b c w1.drew) := HH.out.grew d1.drew
  obtain ⟨p0, p1, p2⟩ := HH1.out.a
  obtain ⟨q0, q1, q2⟩ := HH1.out.b
  clear HH d1
  go_wp2_with fail
  clear p0 p1 p2 q0 q1 q2 HH1
  refine wp_region_held (S := Three w A B C a b c) (by kernel_rfl) ?_
  change wpAnyH _ _ _ _ _ _ _ _ w1.drew
  have hr := HH2.out
  clear HH2
  generalize w1.drew = w2 at *
  refine wpAnyH_take (i := 0) (v := .agg #[.int .u32 a.id, .int .i64 a.r, .int .i64 a.b]) rfl (by kernel_rfl) (by kernel_rfl) (by kernel_rfl) (fun _ _ _ h => h) (Or.inl ⟨by kernel_rfl, fun W hW => by have g0 := hW.a.c0; have g1 := hW.a.c1; have g2 := hW.a.c2; go_simp⟩) hr ?_
  refine wpAnyH_take (i := 1) (v := .agg #[.int .u32 b.id, .int .i64 b.r, .int .i64 b.b]) rfl (by kernel_rfl) (by kernel_rfl) (by kernel_rfl) (fun _ _ _ h => h) (Or.inl ⟨by kernel_rfl, fun W hW => by have g0 := hW.b.c0; have g1 := hW.b.c1; have g2 := hW.b.c2; go_simp⟩) hr ?_
  refine wpAnyH_take (i := 3) (v := .agg #[.int .u32 b.id, .int .i64 b.r, .int .i64 b.b]) rfl (by kernel_rfl) (by kernel_rfl) (by kernel_rfl) (fun _ _ _ h => h) (Or.inl ⟨by kernel_rfl, fun W hW => by have g0 := hW.b.c0; have g1 := hW.b.c1; have g2 := hW.b.c2; go_simp⟩) hr ?_
  refine wpAnyH_take (i := 4) (v := .agg #[.int .u32 a.id, .int .i64 a.r, .int .i64 a.b]) rfl (by kernel_rfl) (by kernel_rfl) (by kernel_rfl) (fun _ _ _ h => h) (Or.inl ⟨by kernel_rfl, fun W hW => by have g0 := hW.a.c0; have g1 := hW.a.c1; have g2 := hW.a.c2; go_simp⟩) hr ?_
  refine wpAnyH_ready (rs := [2]) (by kernel_rfl) (by simp) ?_
  refine AllReadyH.cons rfl (fun K2 hK2 => ?_) AllReadyH.nil
  go_simp
  refine Calls.mono (worse_is (a := a) (b := b) (B := false) Hab.out _) ?_
  rintro e w3 ⟨rfl, d3⟩
  have hr := hr.grew d3
  refine hK2.out _ _ hr (fun hr => ?_)
  clear hK2 K2 d3
  refine wpAnyH_ready (rs := [5]) (by kernel_rfl) (by simp) ?_
  refine AllReadyH.cons rfl (fun K2 hK2 => ?_) AllReadyH.nil
  go_simp
  refine Calls.mono (worse_is (a := b) (b := a) (B := true) Hba.out _) ?_
  rintro e w4 ⟨rfl, d4⟩
  have hr := hr.grew d4
  refine hK2.out _ _ hr (fun hr => ?_)
  clear hK2 K2 d4
  refine wpAnyH_take (i := 6) (v := .bool true) rfl (by kernel_rfl) (by kernel_rfl) (by kernel_rfl) (fun _ _ _ h => h) (Yields.yieldsIf (Or.inl ⟨by kernel_rfl, fun _ => by go_simp⟩)) hr ?_
  refine wpAnyH_take (i := 7) (v := .bool true) rfl (by kernel_rfl) (by kernel_rfl) (by kernel_rfl) (fun _ _ _ h => h) (Yields.yieldsIf (Or.inl ⟨by kernel_rfl, fun _ => by kernel_rfl⟩)) hr ?_
  refine wpAnyH_done (by kernel_rfl) ?_ _
  have HH4 : Hid (Three w A B C a b c w4) := hr
  clear hr
  generalize w4 = v0 at *
  obtain ⟨p0, p1, p2⟩ := HH4.out.a
  obtain ⟨q0, q1, q2⟩ := HH4.out.b
  go_wp2_with fail
  clear p0 p1 p2 q0 q1 q2
  refine (worse_is (a := a) (b := b) (B := false) Hab.out _).mono ?_
  rintro e v1 ⟨rfl, d1⟩
  have HH5 : Hid (Three w A B C a b c v1) := HH4.out.grew d1
  clear d1 HH4
  obtain ⟨p0, p1, p2⟩ := HH5.out.a
  obtain ⟨q0, q1, q2⟩ := HH5.out.b
  obtain ⟨r0, r1, r2⟩ := HH5.out.c
  go_wp2
  go_ret
  exact ⟨rfl, HH5.out.bel⟩
set_option maxRecDepth 100000 in
set_option maxHeartbeats 2000000 in
theorem unlike3true (a b c : Wt) (w : World) (h1 : ¬ a.r = b.r) (hP : a.worse b = true) : Calls Try.prog 6 #[a.val, b.val, c.val] w fun e w' => e = .returned (.bool true) ∧ Below w.heap.size w w' := by
  have H1 : Hid (b.worse a = !a.worse b) := worse_one fun h => h1 h.1
  have i1 : (a.r == b.r) = false := by simpa using h1
  clear h1
  have Hab : Hid (a.worse b = true) := hP
  have Hba : Hid (b.worse a = false) := by
    show b.worse a = false
    rw [H1.out, hP]; rfl
  clear H1 hP
  obtain ⟨x0, e0⟩ : ∃ x, w.alloc (.cells #[.int .u32 a.id, .int .i64 a.r, .int .i64 a.b] 40) = x := ⟨_, rfl⟩
  obtain ⟨x1, e1⟩ : ∃ x, x0.alloc (.cells #[.int .u32 b.id, .int .i64 b.r, .int .i64 b.b] 40) = x := ⟨_, rfl⟩
  obtain ⟨x2, e2⟩ : ∃ x, x1.alloc (.cells #[.int .u32 c.id, .int .i64 c.r, .int .i64 c.b] 40) = x := ⟨_, rfl⟩
  have B0 : Below w.heap.size w x0 := e0 ▸ box_below w _
  have B1 : Below x0.heap.size x0 x1 := e1 ▸ box_below x0 _
  have B2 : Below x1.heap.size x1 x2 := e2 ▸ box_below x1 _
  have A0 : WtAt x0 w.heap.size a := e0 ▸ WtAt.made w _ a
  have A1 : WtAt x1 x0.heap.size b := e1 ▸ WtAt.made x0 _ b
  have A2 : WtAt x2 x1.heap.size c := e2 ▸ WtAt.made x1 _ c
  have HH : Hid (Three w w.heap.size x0.heap.size x1.heap.size a b c x2) := ⟨(A0.grew B1).grew B2, A1.grew B2, A2, (B0.trans (B1.mono B0.size)).trans (B2.mono (Nat.le_trans B0.size B1.size))⟩
  clear B0 B1 B2 A0 A1 A2
  unfold Wt.val
  go_enter Try.func6, Try.ntmps6
  go_wp2_with fail
  clear e0 e1 e2
  generalize w.heap.size = A at *
  generalize x0.heap.size = B at *
  generalize x1.heap.size = C at *
  refine (begun13 _).mono ?_
  rintro e w1 ⟨rfl, d1⟩
  have HH1 : Hid (Three w A B C a b c w1) := HH.out.grew d1
  have HH2 : Hid (Three w A B C a b c w1.drew) := HH.out.grew d1.drew
  obtain ⟨p0, p1, p2⟩ := HH1.out.a
  obtain ⟨q0, q1, q2⟩ := HH1.out.b
  clear HH d1
  go_wp2_with fail
  clear p0 p1 p2 q0 q1 q2 HH1
  refine wp_region_held (S := Three w A B C a b c) (by kernel_rfl) ?_
  change wpAnyH _ _ _ _ _ _ _ _ w1.drew
  have hr := HH2.out
  clear HH2
  generalize w1.drew = w2 at *
  refine wpAnyH_take (i := 0) (v := .agg #[.int .u32 a.id, .int .i64 a.r, .int .i64 a.b]) rfl (by kernel_rfl) (by kernel_rfl) (by kernel_rfl) (fun _ _ _ h => h) (Or.inl ⟨by kernel_rfl, fun W hW => by have g0 := hW.a.c0; have g1 := hW.a.c1; have g2 := hW.a.c2; go_simp⟩) hr ?_
  refine wpAnyH_take (i := 1) (v := .agg #[.int .u32 b.id, .int .i64 b.r, .int .i64 b.b]) rfl (by kernel_rfl) (by kernel_rfl) (by kernel_rfl) (fun _ _ _ h => h) (Or.inl ⟨by kernel_rfl, fun W hW => by have g0 := hW.b.c0; have g1 := hW.b.c1; have g2 := hW.b.c2; go_simp⟩) hr ?_
  refine wpAnyH_take (i := 3) (v := .agg #[.int .u32 b.id, .int .i64 b.r, .int .i64 b.b]) rfl (by kernel_rfl) (by kernel_rfl) (by kernel_rfl) (fun _ _ _ h => h) (Or.inl ⟨by kernel_rfl, fun W hW => by have g0 := hW.b.c0; have g1 := hW.b.c1; have g2 := hW.b.c2; go_simp⟩) hr ?_
  refine wpAnyH_take (i := 4) (v := .agg #[.int .u32 a.id, .int .i64 a.r, .int .i64 a.b]) rfl (by kernel_rfl) (by kernel_rfl) (by kernel_rfl) (fun _ _ _ h => h) (Or.inl ⟨by kernel_rfl, fun W hW => by have g0 := hW.a.c0; have g1 := hW.a.c1; have g2 := hW.a.c2; go_simp⟩) hr ?_
  refine wpAnyH_ready (rs := [2]) (by kernel_rfl) (by simp) ?_
  refine AllReadyH.cons rfl (fun K2 hK2 => ?_) AllReadyH.nil
  go_simp
  refine Calls.mono (worse_is (a := a) (b := b) (B := true) Hab.out _) ?_
  rintro e w3 ⟨rfl, d3⟩
  have hr := hr.grew d3
  refine hK2.out _ _ hr (fun hr => ?_)
  clear hK2 K2 d3
  refine wpAnyH_ready (rs := [5]) (by kernel_rfl) (by simp) ?_
  refine AllReadyH.cons rfl (fun K2 hK2 => ?_) AllReadyH.nil
  go_simp
  refine Calls.mono (worse_is (a := b) (b := a) (B := false) Hba.out _) ?_
  rintro e w4 ⟨rfl, d4⟩
  have hr := hr.grew d4
  refine hK2.out _ _ hr (fun hr => ?_)
  clear hK2 K2 d4
  refine wpAnyH_take (i := 6) (v := .bool true) rfl (by kernel_rfl) (by kernel_rfl) (by kernel_rfl) (fun _ _ _ h => h) (Yields.yieldsIf (Or.inl ⟨by kernel_rfl, fun _ => by go_simp⟩)) hr ?_
  refine wpAnyH_take (i := 7) (v := .bool true) rfl (by kernel_rfl) (by kernel_rfl) (by kernel_rfl) (fun _ _ _ h => h) (Yields.yieldsIf (Or.inl ⟨by kernel_rfl, fun _ => by kernel_rfl⟩)) hr ?_
  refine wpAnyH_done (by kernel_rfl) ?_ _
  have HH4 : Hid (Three w A B C a b c w4) := hr
  clear hr
  generalize w4 = v0 at *
  by_cases hR : b.worse c = true
  · have Hbc : Hid (b.worse c = true) := hR
    have Hac : Hid (a.worse c = true) := worse_on Hab.out hR
    clear hR
    obtain ⟨p0, p1, p2⟩ := HH4.out.a
    obtain ⟨q0, q1, q2⟩ := HH4.out.b
    go_wp2_with fail
    clear p0 p1 p2 q0 q1 q2
    refine (worse_is (a := a) (b := b) (B := true) Hab.out _).mono ?_
    rintro e v1 ⟨rfl, d1⟩
    have HH5 : Hid (Three w A B C a b c v1) := HH4.out.grew d1
    clear d1 HH4
    obtain ⟨p0, p1, p2⟩ := HH5.out.a
    obtain ⟨q0, q1, q2⟩ := HH5.out.b
    obtain ⟨r0, r1, r2⟩ := HH5.out.c
    go_wp2_with fail
    clear p0 p1 p2 q0 q1 q2 r0 r1 r2
    refine (worse_is (a := b) (b := c) (B := true) Hbc.out _).mono ?_
    rintro e v2 ⟨rfl, d2⟩
    have HH6 : Hid (Three w A B C a b c v2) := HH5.out.grew d2
    clear d2 HH5
    obtain ⟨p0, p1, p2⟩ := HH6.out.a
    obtain ⟨q0, q1, q2⟩ := HH6.out.b
    obtain ⟨r0, r1, r2⟩ := HH6.out.c
    go_wp2_with fail
    clear p0 p1 p2 q0 q1 q2 r0 r1 r2
    refine (worse_is (a := a) (b := c) (B := true) Hac.out _).mono ?_
    rintro e v3 ⟨rfl, d3⟩
    have HH7 : Hid (Three w A B C a b c v3) := HH6.out.grew d3
    clear d3 HH6
    obtain ⟨p0, p1, p2⟩ := HH7.out.a
    obtain ⟨q0, q1, q2⟩ := HH7.out.b
    obtain ⟨r0, r1, r2⟩ := HH7.out.c
    go_wp2
    go_ret
    exact ⟨rfl, HH7.out.bel⟩
  · have Hbc : Hid (b.worse c = false) := by
      show b.worse c = false
      simpa using hR
    clear hR
    obtain ⟨p0, p1, p2⟩ := HH4.out.a
    obtain ⟨q0, q1, q2⟩ := HH4.out.b
    go_wp2_with fail
    clear p0 p1 p2 q0 q1 q2
    refine (worse_is (a := a) (b := b) (B := true) Hab.out _).mono ?_
    rintro e v1 ⟨rfl, d1⟩
    have HH5 : Hid (Three w A B C a b c v1) := HH4.out.grew d1
    clear d1 HH4
    obtain ⟨p0, p1, p2⟩ := HH5.out.a
    obtain ⟨q0, q1, q2⟩ := HH5.out.b
    obtain ⟨r0, r1, r2⟩ := HH5.out.c
    go_wp2_with fail
    clear p0 p1 p2 q0 q1 q2 r0 r1 r2
    refine (worse_is (a := b) (b := c) (B := false) Hbc.out _).mono ?_
    rintro e v2 ⟨rfl, d2⟩
    have HH6 : Hid (Three w A B C a b c v2) := HH5.out.grew d2
    clear d2 HH5
    obtain ⟨p0, p1, p2⟩ := HH6.out.a
    obtain ⟨q0, q1, q2⟩ := HH6.out.b
    obtain ⟨r0, r1, r2⟩ := HH6.out.c
    go_wp2
    go_ret
    exact ⟨rfl, HH6.out.bel⟩
set_option maxRecDepth 100000 in
set_option maxHeartbeats 2000000 in
theorem unlike3false (a b c : Wt) (w : World) (h1 : ¬ a.r = b.r) (hP : a.worse b = false) : Calls Try.prog 6 #[a.val, b.val, c.val] w fun e w' => e = .returned (.bool true) ∧ Below w.heap.size w w' := by
  have H1 : Hid (b.worse a = !a.worse b) := worse_one fun h => h1 h.1
  have i1 : (a.r == b.r) = false := by simpa using h1
  clear h1
  have Hab : Hid (a.worse b = false) := hP
  have Hba : Hid (b.worse a = true) := by
    show b.worse a = true
    rw [H1.out, hP]; rfl
  clear H1 hP
  obtain ⟨x0, e0⟩ : ∃ x, w.alloc (.cells #[.int .u32 a.id, .int .i64 a.r, .int .i64 a.b] 40) = x := ⟨_, rfl⟩
  obtain ⟨x1, e1⟩ : ∃ x, x0.alloc (.cells #[.int .u32 b.id, .int .i64 b.r, .int .i64 b.b] 40) = x := ⟨_, rfl⟩
  obtain ⟨x2, e2⟩ : ∃ x, x1.alloc (.cells #[.int .u32 c.id, .int .i64 c.r, .int .i64 c.b] 40) = x := ⟨_, rfl⟩
  have B0 : Below w.heap.size w x0 := e0 ▸ box_below w _
  have B1 : Below x0.heap.size x0 x1 := e1 ▸ box_below x0 _
  have B2 : Below x1.heap.size x1 x2 := e2 ▸ box_below x1 _
  have A0 : WtAt x0 w.heap.size a := e0 ▸ WtAt.made w _ a
  have A1 : WtAt x1 x0.heap.size b := e1 ▸ WtAt.made x0 _ b
  have A2 : WtAt x2 x1.heap.size c := e2 ▸ WtAt.made x1 _ c
  have HH : Hid (Three w w.heap.size x0.heap.size x1.heap.size a b c x2) := ⟨(A0.grew B1).grew B2, A1.grew B2, A2, (B0.trans (B1.mono B0.size)).trans (B2.mono (Nat.le_trans B0.size B1.size))⟩
  clear B0 B1 B2 A0 A1 A2
  unfold Wt.val
  go_enter Try.func6, Try.ntmps6
  go_wp2_with fail
  clear e0 e1 e2
  generalize w.heap.size = A at *
  generalize x0.heap.size = B at *
  generalize x1.heap.size = C at *
  refine (begun13 _).mono ?_
  rintro e w1 ⟨rfl, d1⟩
  have HH1 : Hid (Three w A B C a b c w1) := HH.out.grew d1
  have HH2 : Hid (Three w A B C a b c w1.drew) := HH.out.grew d1.drew
  obtain ⟨p0, p1, p2⟩ := HH1.out.a
  obtain ⟨q0, q1, q2⟩ := HH1.out.b
  clear HH d1
  go_wp2_with fail
  clear p0 p1 p2 q0 q1 q2 HH1
  refine wp_region_held (S := Three w A B C a b c) (by kernel_rfl) ?_
  change wpAnyH _ _ _ _ _ _ _ _ w1.drew
  have hr := HH2.out
  clear HH2
  generalize w1.drew = w2 at *
  refine wpAnyH_take (i := 0) (v := .agg #[.int .u32 a.id, .int .i64 a.r, .int .i64 a.b]) rfl (by kernel_rfl) (by kernel_rfl) (by kernel_rfl) (fun _ _ _ h => h) (Or.inl ⟨by kernel_rfl, fun W hW => by have g0 := hW.a.c0; have g1 := hW.a.c1; have g2 := hW.a.c2; go_simp⟩) hr ?_
  refine wpAnyH_take (i := 1) (v := .agg #[.int .u32 b.id, .int .i64 b.r, .int .i64 b.b]) rfl (by kernel_rfl) (by kernel_rfl) (by kernel_rfl) (fun _ _ _ h => h) (Or.inl ⟨by kernel_rfl, fun W hW => by have g0 := hW.b.c0; have g1 := hW.b.c1; have g2 := hW.b.c2; go_simp⟩) hr ?_
  refine wpAnyH_take (i := 3) (v := .agg #[.int .u32 b.id, .int .i64 b.r, .int .i64 b.b]) rfl (by kernel_rfl) (by kernel_rfl) (by kernel_rfl) (fun _ _ _ h => h) (Or.inl ⟨by kernel_rfl, fun W hW => by have g0 := hW.b.c0; have g1 := hW.b.c1; have g2 := hW.b.c2; go_simp⟩) hr ?_
  refine wpAnyH_take (i := 4) (v := .agg #[.int .u32 a.id, .int .i64 a.r, .int .i64 a.b]) rfl (by kernel_rfl) (by kernel_rfl) (by kernel_rfl) (fun _ _ _ h => h) (Or.inl ⟨by kernel_rfl, fun W hW => by have g0 := hW.a.c0; have g1 := hW.a.c1; have g2 := hW.a.c2; go_simp⟩) hr ?_
  refine wpAnyH_ready (rs := [2]) (by kernel_rfl) (by simp) ?_
  refine AllReadyH.cons rfl (fun K2 hK2 => ?_) AllReadyH.nil
  go_simp
  refine Calls.mono (worse_is (a := a) (b := b) (B := false) Hab.out _) ?_
  rintro e w3 ⟨rfl, d3⟩
  have hr := hr.grew d3
  refine hK2.out _ _ hr (fun hr => ?_)
  clear hK2 K2 d3
  refine wpAnyH_ready (rs := [5]) (by kernel_rfl) (by simp) ?_
  refine AllReadyH.cons rfl (fun K2 hK2 => ?_) AllReadyH.nil
  go_simp
  refine Calls.mono (worse_is (a := b) (b := a) (B := true) Hba.out _) ?_
  rintro e w4 ⟨rfl, d4⟩
  have hr := hr.grew d4
  refine hK2.out _ _ hr (fun hr => ?_)
  clear hK2 K2 d4
  refine wpAnyH_take (i := 6) (v := .bool true) rfl (by kernel_rfl) (by kernel_rfl) (by kernel_rfl) (fun _ _ _ h => h) (Yields.yieldsIf (Or.inl ⟨by kernel_rfl, fun _ => by go_simp⟩)) hr ?_
  refine wpAnyH_take (i := 7) (v := .bool true) rfl (by kernel_rfl) (by kernel_rfl) (by kernel_rfl) (fun _ _ _ h => h) (Yields.yieldsIf (Or.inl ⟨by kernel_rfl, fun _ => by kernel_rfl⟩)) hr ?_
  refine wpAnyH_done (by kernel_rfl) ?_ _
  have HH4 : Hid (Three w A B C a b c w4) := hr
  clear hr
  generalize w4 = v0 at *
  obtain ⟨p0, p1, p2⟩ := HH4.out.a
  obtain ⟨q0, q1, q2⟩ := HH4.out.b
  go_wp2_with fail
  clear p0 p1 p2 q0 q1 q2
  refine (worse_is (a := a) (b := b) (B := false) Hab.out _).mono ?_
  rintro e v1 ⟨rfl, d1⟩
  have HH5 : Hid (Three w A B C a b c v1) := HH4.out.grew d1
  clear d1 HH4
  obtain ⟨p0, p1, p2⟩ := HH5.out.a
  obtain ⟨q0, q1, q2⟩ := HH5.out.b
  obtain ⟨r0, r1, r2⟩ := HH5.out.c
  go_wp2
  go_ret
  exact ⟨rfl, HH5.out.bel⟩

theorem walk (a b c : Wt) (w : World) : Calls Try.prog 6 #[a.val, b.val, c.val] w fun e w' => e = .returned (.bool true) ∧ Below w.heap.size w w' := by
  by_cases h1 : a.r = b.r
  · by_cases h2 : a.id = b.id
    · exact same3 a b c w h1 h2
    · by_cases hP : a.worse b = true
      · exact rank3true a b c w h1 h2 hP
      · exact rank3false a b c w h1 h2 (by simpa using hP)
  · by_cases hP : a.worse b = true
    · exact unlike3true a b c w h1 hP
    · exact unlike3false a b c w h1 (by simpa using hP)

set_option maxRecDepth 100000 in
theorem lifted (os : Os) (started : os.Started) (H : Type) (enc : TypeId × Value → H) :
    ReturnsInHanded {} Try.checked os 6 .any (Rows.rankOrderSpec.pre6 enc Try.prog Try.f6 Rows.rankOrderRow.domain false) (Rows.rankOrderSpec.post enc Try.prog Try.f6 false true false false) := by
  refine returnsInHanded_of_change (C := Try.checked) own started (by kernel_rfl) Try.func6
    (ChangeSpec.witness6 (enc := enc) (C := Try.checked) false ⟨#[], #[.agg #[.int .u32 0, .int .i64 0, .int .i64 0], .agg #[.int .u32 0, .int .i64 0, .int .i64 0], .agg #[.int .u32 0, .int .i64 0, .int .i64 0]], []⟩ 8 (by kernel_rfl) (by kernel_rfl) (by kernel_rfl) (by kernel_rfl)) ?_
  intro W base args ds gs before hval0 hW hcnd _
  have hval : ∀ (j : Nat) t v, Try.f6.params[j]? = some t → args[j]? = some v → Value.okWide Try.prog W .any base t v := hval0
  have hW' := hW
  obtain ⟨p, q, hA0, hV, rfl, hfz, hnd⟩ := hW
  have hA : DataW.TrodAll enc Try.prog W 0 (fun _ => true) true Try.f6.params.toList args.toList ds p := hA0
  rw [Try.params6] at hA hval
  obtain ⟨v0, vs0, d0, ds0, p0, q0, hargs, rfl, rfl, h0, r0⟩ := trodAll_cons hA
  obtain ⟨v1, vs1, d1, ds1, p1, q1, rfl, rfl, rfl, h1, r1⟩ := trodAll_cons r0
  obtain ⟨v2, vs2, d2, ds2, p2, q2, rfl, rfl, rfl, h2, r2⟩ := trodAll_cons r1
  obtain ⟨rfl, rfl, rfl⟩ := trodAll_nil r2
  obtain rfl : args = #[v0, v1, v2] := by cases args; simp_all
  obtain ⟨rfl, rfl⟩ := trodVars_none hV
  have k0 := h0
  have lt0 : ∀ x ∈ p0, x.block < W.heap.size := by obtain ⟨m, hm⟩ := k0; exact DataW.trod_lt m _ _ _ hm
  obtain ⟨A0, rfl⟩ := open_want (hval 0 40 v0 rfl rfl) h0
  have k1 := h1
  have lt1 : ∀ x ∈ p1, x.block < W.heap.size := by obtain ⟨m, hm⟩ := k1; exact DataW.trod_lt m _ _ _ hm
  obtain ⟨A1, rfl⟩ := open_want (hval 1 40 v1 rfl rfl) h1
  have k2 := h2
  have lt2 : ∀ x ∈ p2, x.block < W.heap.size := by obtain ⟨m, hm⟩ := k2; exact DataW.trod_lt m _ _ _ hm
  obtain ⟨A2, rfl⟩ := open_want (hval 2 40 v2 rfl rfl) h2
  clear hA0 hval0
  refine (walk A0 A1 A2 W).mono fun e W' ⟨he, bel⟩ => ?_
  subst he
  exact ⟨_, rfl, _, _, _, [], _, [], hW', trodAll_mk1 (shut_bool Try.underlying4 _), (trodAll_cons_mk (Below.trod laidOut (by kernel_rfl) (of_decide_eq_true (by kernel_rfl)) k0 bel lt0) (trodAll_cons_mk (Below.trod laidOut (by kernel_rfl) (of_decide_eq_true (by kernel_rfl)) k1 bel lt1) (trodAll_cons_mk (Below.trod laidOut (by kernel_rfl) (of_decide_eq_true (by kernel_rfl)) k2 bel lt2) trodAll_mk0))), rfl, bel.frame _, fun h => by cases h⟩

theorem over : Rows.rankOrderRow.holds Try.pinned (OpenSpec.ofChange Rows.rankOrderSpec) :=
  OpenClaim.holds_of_wide 6 Try.f6 rfl rfl rfl rfl rfl rfl rfl ⟨rfl, rfl, rfl, rfl, rfl⟩ rfl rfl rfl rfl rfl (by kernel_rfl) Try.func6 (by kernel_rfl)
    (of_decide_eq_true (by kernel_rfl)) (by unfold Func.isWrapper; first | (rw [if_pos (by decide +kernel)]; kernel_rfl) | (rw [if_neg (by decide +kernel)]; exact ⟨rfl, rfl⟩))
    (fun os started H enc _ => lifted os started H enc)

theorem proved : Rows.RankOrderSaid := over
end Go.Proofs.Ytmbpfdnadjemcaa.rankOrder
namespace Go.Proofs.Ytmbpfdnadjemcaa
theorem rankOrder_holds : Rows.RankOrderSaid := rankOrder.proved
#print axioms rankOrder_holds
end Go.Proofs.Ytmbpfdnadjemcaa

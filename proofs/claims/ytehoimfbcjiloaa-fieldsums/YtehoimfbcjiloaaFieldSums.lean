/-
  In the program's field rows are added up place by place, twice is not at all, and sums of products go over sums: the call returns true for every three rows and two bytes (no condition).
-/
import Derived.Test.YtehoimfbcjiloaaRows
import Derived.WalkKit
import Derived.ProofKit
import Derived.OpenShut
import Derived.ShutString
import Derived.ChangeOld
import Derived.Below
import Derived.Test.YtehoimfbcjiloaaStr
namespace Go.Proofs.Ytehoimfbcjiloaa.fieldSums
open Go.ChangeShapes Go.WideShapes Go.ChangeAt Go.RowKit
open Go.ChangeMaps (open_string shut_string)
set_option linter.unusedVariables false

theorem own : ownKnob Try.prog.godebug = none := by kernel_rfl
theorem laidOut : laidOutB Try.prog = true := by kernel_rfl

/-- WHAT THE WALK IS TOLD OF A SLICE OF INTEGERS THAT CAME IN: it is nil; or it leads to a row of 'cap' cells, the numbers 'zs' (the first 'len' are its elements, the rest its spare room), each fitting its kind. -/
def IsRow (k : IntKind) (w : World) (a : Option Addr) (len cap : Nat) (zs : List Int) : Prop :=
  (a = none ∧ len = 0 ∧ cap = 0 ∧ zs = []) ∨
  ∃ x, a = some x ∧ len ≤ cap ∧ cap ≤ maxLen ∧ zs.length = cap ∧ (∀ i, i < zs.length → w.cell? (x.add i) = some (.int k (zs.getD i 0))) ∧ ∀ n ∈ zs, (Lit.int k n).wf = true

open Go.Deep

theorem add_twice (y x : Nat → Nat) (c d i : Nat) (hx : x i < 256) (hc : c < 256) (hd : d < 256) : addUp (addUp y x c) x d i = addUp y x (c ^^^ d) i := by
  unfold addUp
  rw [Gf.xor_mul c d (x i) hc hd hx, Nat.xor_assoc]
theorem add_back (y x : Nat → Nat) (c i : Nat) : addUp (addUp y x c) x c i = y i := by
  unfold addUp
  rw [Nat.xor_assoc, Nat.xor_self, Nat.xor_zero]
theorem dot_swap (x y : Nat → Nat) (n : Nat) : dot y x n = dot x y n := by
  induction n with
  | zero => rfl
  | succ n ih => show dot y x n ^^^ _ = dot x y n ^^^ _; rw [ih, Gf.mul_comm]
theorem dot_add (x y z : Nat → Nat) (c n : Nat) (hc : c < 256) (hx : ∀ i, i < n → x i < 256) (hy : ∀ i, i < n → y i < 256) (hz : ∀ i, i < n → z i < 256) :
    dot x (addUp y z c) n = dot x y n ^^^ Gf.mul c (dot x z n) := by
  induction n with
  | zero => show 0 = 0 ^^^ Gf.mul c 0; rw [Gf.mul_zero]; rfl
  | succ n ih =>
    show dot x (addUp y z c) n ^^^ Gf.mul (x n) (y n ^^^ Gf.mul c (z n)) = (dot x y n ^^^ Gf.mul (x n) (y n)) ^^^ Gf.mul c (dot x z n ^^^ Gf.mul (x n) (z n))
    rw [ih (fun i h => hx i (by omega)) (fun i h => hy i (by omega)) (fun i h => hz i (by omega)), Gf.mul_xor _ _ _ (hx n (by omega)) (hy n (by omega)) (Gf.mul_lt _ _), Gf.mul_xor c _ _ hc (dot_lt _ _ _) (Gf.mul_lt _ _), Gf.xor4]
    rw [Gf.mul_assoc (x n) c, Gf.mul_comm (x n) c, ← Gf.mul_assoc c (x n)]
set_option maxRecDepth 100000 in
set_option maxHeartbeats 1000000 in
theorem core (a0 a1 a2 : Option Addr) (l0 c0 l1 c1 l2 c2 : Nat) (x y z : Nat → Nat) (c d : Nat) (w : World) (hx : BytesAt w a0 l0 x) (hy : BytesAt w a1 l1 y) (hz : BytesAt w a2 l2 z)
    (hc : c < 256) (hd : d < 256) (k0 : l0 ≤ c0) (k1 : l1 ≤ c1) (k2 : l2 ≤ c2) (m0 : c0 ≤ maxLen) (m1 : c1 ≤ maxLen) (m2 : c2 ≤ maxLen) :
    Calls Try.prog 7 #[.slice a0 l0 c0, .slice a1 l1 c1, .slice a2 l2 c2, .int .u8 c, .int .u8 d] w fun e w' => e = .returned (.bool true) ∧ Below w.heap.size w w' := by
  unfold maxLen at m0 m1 m2
  obtain ⟨N, hN⟩ : ∃ N : Nat, N = min (min (min l0 l1) l2) 40 := ⟨_, rfl⟩
  have n0 : N ≤ l0 := by omega
  have n1 : N ≤ l1 := by omega
  have n2 : N ≤ l2 := by omega
  have n40 : N ≤ 40 := by omega
  have hmin := fun ts t w => min4 ts t (l0 : Int) (l1 : Int) (l2 : Int) 40 (N : Int) w (by omega)
  have hs0 := fun w => slice_to a0 l0 c0 N w (by omega)
  have hs1 := fun w => slice_to a1 l1 c1 N w (by omega)
  have hs2 := fun w => slice_to a2 l2 c2 N w (by omega)
  have hNm : N ≤ maxLen := by unfold maxLen; omega
  have hcd := Gf.xor_lt c d hc hd
  have hxcd : bits .xor .u8 (c : Int) (d : Int) = ((c ^^^ d : Nat) : Int) := u8_xor_nat _ _ hc hd
  have hxd : bits .xor .u8 (dot x y N : Int) (Gf.mul c (dot x z N) : Int) = ((dot x y N ^^^ Gf.mul c (dot x z N) : Nat) : Int) := u8_xor_nat _ _ (dot_lt _ _ _) (Gf.mul_lt _ _)
  have hx := hx.take n0
  have hy := hy.take n1
  have hz := hz.take n2
  clear hN
  go_enter Try.func7, Try.ntmps7
  go_wp2_with fail
  refine (begun_any _).mono ?_
  rintro e v0 ⟨rfl, b0⟩
  have x0 := hx.below b0 (Nat.le_refl _)
  have y0 := hy.below b0 (Nat.le_refl _)
  have z0 := hz.below b0 (Nat.le_refl _)
  go_wp2_with fail
  go_quiet (fail)
  obtain ⟨v1, hv1⟩ : ∃ v1, v1 = v0.drewN nq := ⟨_, rfl⟩
  have q1 : Same v0 v1 := ⟨nq, hv1⟩
  rw [← hv1]
  clear hv1
  have x1 := q1.bytes x0
  have y1 := q1.bytes y0
  have z1 := q1.bytes z0
  have b1 := b0.trans (q1.below _)
  clear x0 y0 z0 q1 b0 hs0 hs1 hs2 hmin
  go_wp2_with fail
  refine (new_any _).mono ?_
  rintro e w0 ⟨rfl, hb, F_0, hsz⟩
  clear hsz
  have x_0 := x1.below hb (Nat.le_refl _)
  have y_0 := y1.below hb (Nat.le_refl _)
  have z_0 := z1.below hb (Nat.le_refl _)
  have B_0 := b1.trans (hb.mono b1.size)
  clear x1 y1 z1 b1 hb hx hy hz
  generalize v1.heap.size = P at *
  go_wp2_with fail
  refine (axpy_bytes P N N c1 c0 c _ _ _ _ _ F_0 y_0 x_0 (by omega) (by omega) hc N (by omega)).mono ?_
  rintro e w1 ⟨rfl, N_1, b_1, hsz⟩
  clear hsz
  have F_1 := F_0.below b_1 F_0.lt
  have x_1 := x_0.below b_1 (Nat.le_refl _)
  have y_1 := y_0.below b_1 (Nat.le_refl _)
  have z_1 := z_0.below b_1 (Nat.le_refl _)
  have B_1 := B_0.trans (b_1.mono B_0.size)
  clear F_0 x_0 y_0 z_0 B_0 b_1
  have r_1 := N_1
  clear N_1
  go_wp2_with fail
  refine (axpy_bytes P N N N c0 d _ _ _ _ _ F_1 r_1 x_1 (by omega) (by omega) hd N (by omega)).mono ?_
  rintro e w2 ⟨rfl, N_2, b_2, hsz⟩
  clear hsz
  have F_2 := F_1.below b_2 F_1.lt
  have x_2 := x_1.below b_2 (Nat.le_refl _)
  have y_2 := y_1.below b_2 (Nat.le_refl _)
  have z_2 := z_1.below b_2 (Nat.le_refl _)
  have r_2 := r_1.below b_2 (Nat.le_refl _)
  have B_2 := B_1.trans (b_2.mono B_1.size)
  clear F_1 x_1 y_1 z_1 r_1 B_1 b_2
  have one_2 := N_2
  clear N_2
  go_wp2_with fail
  refine (axpy_bytes P N N c1 c0 (c ^^^ d) _ _ _ _ _ F_2 y_2 x_2 (by omega) (by omega) hcd N (by omega)).mono ?_
  rintro e w3 ⟨rfl, N_3, b_3, hsz⟩
  clear hsz
  have F_3 := F_2.below b_3 F_2.lt
  have x_3 := x_2.below b_3 (Nat.le_refl _)
  have y_3 := y_2.below b_3 (Nat.le_refl _)
  have z_3 := z_2.below b_3 (Nat.le_refl _)
  have r_3 := r_2.below b_3 (Nat.le_refl _)
  have one_3 := one_2.below b_3 (Nat.le_refl _)
  have B_3 := B_2.trans (b_3.mono B_2.size)
  clear F_2 x_2 y_2 z_2 r_2 one_2 B_2 b_3
  have both_3 := N_3
  clear N_3
  go_wp2_with fail
  refine (axpy_bytes P N N c1 c0 c _ _ _ _ _ F_3 y_3 x_3 (by omega) (by omega) hc N (by omega)).mono ?_
  rintro e w4 ⟨rfl, N_4, b_4, hsz⟩
  clear hsz
  have F_4 := F_3.below b_4 F_3.lt
  have x_4 := x_3.below b_4 (Nat.le_refl _)
  have y_4 := y_3.below b_4 (Nat.le_refl _)
  have z_4 := z_3.below b_4 (Nat.le_refl _)
  have r_4 := r_3.below b_4 (Nat.le_refl _)
  have one_4 := one_3.below b_4 (Nat.le_refl _)
  have both_4 := both_3.below b_4 (Nat.le_refl _)
  have B_4 := B_3.trans (b_4.mono B_3.size)
  clear F_3 x_3 y_3 z_3 r_3 one_3 both_3 B_3 b_4
  have s_4 := N_4
  clear N_4
  go_wp2_with fail
  refine (axpy_bytes P N N N c0 c _ _ _ _ _ F_4 s_4 x_4 (by omega) (by omega) hc N (by omega)).mono ?_
  rintro e w5 ⟨rfl, N_5, b_5, hsz⟩
  clear hsz
  have F_5 := F_4.below b_5 F_4.lt
  have x_5 := x_4.below b_5 (Nat.le_refl _)
  have y_5 := y_4.below b_5 (Nat.le_refl _)
  have z_5 := z_4.below b_5 (Nat.le_refl _)
  have r_5 := r_4.below b_5 (Nat.le_refl _)
  have one_5 := one_4.below b_5 (Nat.le_refl _)
  have both_5 := both_4.below b_5 (Nat.le_refl _)
  have s_5 := s_4.below b_5 (Nat.le_refl _)
  have B_5 := B_4.trans (b_5.mono B_4.size)
  clear F_4 x_4 y_4 z_4 r_4 one_4 both_4 s_4 B_4 b_5
  have back_5 := N_5
  clear N_5
  have e1 := conv_bytes _ N N _ _ one_5
  have e2 := conv_bytes _ N N _ _ both_5
  have e3 := conv_bytes _ N N _ _ back_5
  have e4 := conv_bytes _ N c1 _ _ y_5
  rw [strOf_congr (fun i hi => add_twice y x c d i (x_5.lt i hi) hc hd)] at e1
  rw [strOf_congr (fun i _ => add_back y x c i)] at e3
  go_wp2_with fail
  refine (dot_at P N N c0 c1 (dot x y N : Int) _ _ _ _ _ F_5 x_5 y_5 hNm hNm (by rw [Nat.min_self])).mono ?_
  rintro e w6 ⟨rfl, q_6⟩
  have F_6 := q_6.field F_5
  have x_6 := q_6.bytes x_5
  have y_6 := q_6.bytes y_5
  have z_6 := q_6.bytes z_5
  have B_6 := B_5.trans (q_6.below _)
  clear F_5 x_5 y_5 z_5 B_5 q_6
  go_wp2_with fail
  refine (dot_at P N N c1 c0 (dot x y N : Int) _ _ _ _ _ F_6 y_6 x_6 hNm hNm (by rw [Nat.min_self, dot_swap])).mono ?_
  rintro e w7 ⟨rfl, q_7⟩
  have F_7 := q_7.field F_6
  have x_7 := q_7.bytes x_6
  have y_7 := q_7.bytes y_6
  have z_7 := q_7.bytes z_6
  have B_7 := B_6.trans (q_7.below _)
  clear F_6 x_6 y_6 z_6 B_6 q_7
  go_wp2_with fail
  refine (axpy_bytes P N N c1 c2 c _ _ _ _ _ F_7 y_7 z_7 (by omega) (by omega) hc N (by omega)).mono ?_
  rintro e w8 ⟨rfl, N_8, b_8, hsz⟩
  clear hsz
  have F_8 := F_7.below b_8 F_7.lt
  have x_8 := x_7.below b_8 (Nat.le_refl _)
  have y_8 := y_7.below b_8 (Nat.le_refl _)
  have z_8 := z_7.below b_8 (Nat.le_refl _)
  have B_8 := B_7.trans (b_8.mono B_7.size)
  clear F_7 x_7 y_7 z_7 B_7 b_8
  have t_8 := N_8
  clear N_8
  go_wp2_with fail
  refine (dot_at P N N c0 N ((dot x y N ^^^ Gf.mul c (dot x z N) : Nat) : Int) _ _ _ _ _ F_8 x_8 t_8 hNm hNm (by rw [Nat.min_self, dot_add x y z c N hc x_8.lt y_8.lt z_8.lt])).mono ?_
  rintro e w9 ⟨rfl, q_9⟩
  have F_9 := q_9.field F_8
  have x_9 := q_9.bytes x_8
  have y_9 := q_9.bytes y_8
  have z_9 := q_9.bytes z_8
  have t_9 := q_9.bytes t_8
  have B_9 := B_8.trans (q_9.below _)
  clear F_8 x_8 y_8 z_8 t_8 B_8 q_9
  go_wp2_with fail
  refine (dot_at P N N c0 c1 (dot x y N : Int) _ _ _ _ _ F_9 x_9 y_9 hNm hNm (by rw [Nat.min_self])).mono ?_
  rintro e w10 ⟨rfl, q_10⟩
  have F_10 := q_10.field F_9
  have x_10 := q_10.bytes x_9
  have y_10 := q_10.bytes y_9
  have z_10 := q_10.bytes z_9
  have t_10 := q_10.bytes t_9
  have B_10 := B_9.trans (q_10.below _)
  clear F_9 x_9 y_9 z_9 t_9 B_9 q_10
  go_wp2_with fail
  refine (dot_at P N N c0 c2 (dot x z N : Int) _ _ _ _ _ F_10 x_10 z_10 hNm hNm (by rw [Nat.min_self])).mono ?_
  rintro e w11 ⟨rfl, q_11⟩
  have F_11 := q_11.field F_10
  have x_11 := q_11.bytes x_10
  have y_11 := q_11.bytes y_10
  have z_11 := q_11.bytes z_10
  have t_11 := q_11.bytes t_10
  have B_11 := B_10.trans (q_11.below _)
  clear F_10 x_10 y_10 z_10 t_10 B_10 q_11
  go_wp2_with fail
  refine (mul_is P c (dot x z N) (Gf.mul c (dot x z N)) _ F_11 hc (dot_lt _ _ _) rfl).mono ?_
  rintro e w12 ⟨rfl, q_12⟩
  have F_12 := q_12.field F_11
  have x_12 := q_12.bytes x_11
  have y_12 := q_12.bytes y_11
  have z_12 := q_12.bytes z_11
  have t_12 := q_12.bytes t_11
  have B_12 := B_11.trans (q_12.below _)
  clear F_11 x_11 y_11 z_11 t_11 B_11 q_12
  go_wp2
  go_ret
  exact ⟨rfl, B_12⟩

theorem walk (a0 : Option Addr) (len0 cap0 : Nat) (z0 : List Int) (a1 : Option Addr) (len1 cap1 : Nat) (z1 : List Int) (a2 : Option Addr) (len2 cap2 : Nat) (z2 : List Int) (a3 : Int) (a4 : Int) (w : World) (w0 : IsRow .u8 w a0 len0 cap0 z0) (w1 : IsRow .u8 w a1 len1 cap1 z1) (w2 : IsRow .u8 w a2 len2 cap2 z2) (w3 : (Lit.int .u8 a3).wf = true) (w4 : (Lit.int .u8 a4).wf = true) :
    Calls Try.prog 7 #[.slice a0 len0 cap0, .slice a1 len1 cap1, .slice a2 len2 cap2, .int .u8 a3, .int .u8 a4] w fun e w' => e = .returned (.bool true) ∧ Below w.heap.size w w' := by
  obtain ⟨c, rfl, hc⟩ := int_nat a3 (by have := bounds_u8 w3; omega)
  obtain ⟨d, rfl, hd⟩ := int_nat a4 (by have := bounds_u8 w4; omega)
  have r0 : Came w a0 len0 cap0 z0 := w0
  have r1 : Came w a1 len1 cap1 z1 := w1
  have r2 : Came w a2 len2 cap2 z2 := w2
  obtain ⟨h0, k0, m0⟩ := r0.bytes
  obtain ⟨h1, k1, m1⟩ := r1.bytes
  obtain ⟨h2, k2, m2⟩ := r2.bytes
  exact core a0 a1 a2 len0 cap0 len1 cap1 len2 cap2 _ _ _ c d w h0 h1 h2 hc hd k0 k1 k2 m0 m1 m2

/-! ### THE ROW's STEP: WRITTEN OUT: LEAVE IT -/
set_option maxRecDepth 100000 in
theorem lifted (os : Os) (started : os.Started) (H : Type) (enc : TypeId × Value → H) :
    ReturnsInHanded {} Try.checked os 7 .any (Rows.fieldSumsSpec.pre6 enc Try.prog Try.f7 Rows.fieldSumsRow.domain false) (Rows.fieldSumsSpec.post enc Try.prog Try.f7 false true false false) := by
  refine returnsInHanded_of_change (C := Try.checked) own started (by kernel_rfl) Try.func7
    (ChangeSpec.witness6 (enc := enc) (C := Try.checked) false ⟨#[], #[.slice none 0 0, .slice none 0 0, .slice none 0 0, .int .u8 0, .int .u8 0], []⟩ 8 (by kernel_rfl) (by kernel_rfl) (by kernel_rfl) (by kernel_rfl)) ?_
  intro W base args ds gs before hval0 hW hcnd _
  have hval : ∀ (j : Nat) t v, Try.f7.params[j]? = some t → args[j]? = some v → Value.okWide Try.prog W .any base t v := hval0
  have hW' := hW
  obtain ⟨p, q, hA0, hV, rfl, hfz, hnd⟩ := hW
  have hA : DataW.TrodAll enc Try.prog W 0 (fun _ => true) true Try.f7.params.toList args.toList ds p := hA0
  rw [Try.params7] at hA hval
  obtain ⟨v0, vs0, d0, ds0, p0, q0, hargs, rfl, rfl, h0, r0⟩ := trodAll_cons hA
  obtain ⟨v1, vs1, d1, ds1, p1, q1, rfl, rfl, rfl, h1, r1⟩ := trodAll_cons r0
  obtain ⟨v2, vs2, d2, ds2, p2, q2, rfl, rfl, rfl, h2, r2⟩ := trodAll_cons r1
  obtain ⟨v3, vs3, d3, ds3, p3, q3, rfl, rfl, rfl, h3, r3⟩ := trodAll_cons r2
  obtain ⟨v4, vs4, d4, ds4, p4, q4, rfl, rfl, rfl, h4, r4⟩ := trodAll_cons r3
  obtain ⟨rfl, rfl, rfl⟩ := trodAll_nil r4
  obtain rfl : args = #[v0, v1, v2, v3, v4] := by cases args; simp_all
  obtain ⟨rfl, rfl⟩ := trodVars_none hV
  obtain ⟨a0, len0, cap0, rfl⟩ := okWide_slice Try.underlying33 (hval 0 33 v0 rfl rfl)
  have k0 := h0
  have lt0 : ∀ x ∈ p0, x.block < W.heap.size := by obtain ⟨m, hm⟩ := k0; exact DataW.trod_lt m _ _ _ hm
  obtain ⟨z0, w0⟩ : ∃ zs, IsRow .u8 W a0 len0 cap0 zs := by
    obtain ⟨fuel, hf⟩ := h0
    rcases open_ints Try.underlying33 Try.underlying5 (by kernel_rfl) hf with ⟨hcs, _⟩ | ⟨x, l, c, zs, hcs, _, hl, hm, hz, _, hcell, hwz⟩
    · simp [Value.cells] at hcs
      obtain ⟨rfl, rfl, rfl⟩ := hcs
      exact ⟨[], .inl ⟨rfl, rfl, rfl, rfl⟩⟩
    · simp [Value.cells] at hcs
      obtain ⟨rfl, rfl, rfl⟩ := hcs
      exact ⟨zs, .inr ⟨_, rfl, hl, hm, by simpa using hz, hcell, hwz⟩⟩
  obtain ⟨a1, len1, cap1, rfl⟩ := okWide_slice Try.underlying33 (hval 1 33 v1 rfl rfl)
  have k1 := h1
  have lt1 : ∀ x ∈ p1, x.block < W.heap.size := by obtain ⟨m, hm⟩ := k1; exact DataW.trod_lt m _ _ _ hm
  obtain ⟨z1, w1⟩ : ∃ zs, IsRow .u8 W a1 len1 cap1 zs := by
    obtain ⟨fuel, hf⟩ := h1
    rcases open_ints Try.underlying33 Try.underlying5 (by kernel_rfl) hf with ⟨hcs, _⟩ | ⟨x, l, c, zs, hcs, _, hl, hm, hz, _, hcell, hwz⟩
    · simp [Value.cells] at hcs
      obtain ⟨rfl, rfl, rfl⟩ := hcs
      exact ⟨[], .inl ⟨rfl, rfl, rfl, rfl⟩⟩
    · simp [Value.cells] at hcs
      obtain ⟨rfl, rfl, rfl⟩ := hcs
      exact ⟨zs, .inr ⟨_, rfl, hl, hm, by simpa using hz, hcell, hwz⟩⟩
  obtain ⟨a2, len2, cap2, rfl⟩ := okWide_slice Try.underlying33 (hval 2 33 v2 rfl rfl)
  have k2 := h2
  have lt2 : ∀ x ∈ p2, x.block < W.heap.size := by obtain ⟨m, hm⟩ := k2; exact DataW.trod_lt m _ _ _ hm
  obtain ⟨z2, w2⟩ : ∃ zs, IsRow .u8 W a2 len2 cap2 zs := by
    obtain ⟨fuel, hf⟩ := h2
    rcases open_ints Try.underlying33 Try.underlying5 (by kernel_rfl) hf with ⟨hcs, _⟩ | ⟨x, l, c, zs, hcs, _, hl, hm, hz, _, hcell, hwz⟩
    · simp [Value.cells] at hcs
      obtain ⟨rfl, rfl, rfl⟩ := hcs
      exact ⟨[], .inl ⟨rfl, rfl, rfl, rfl⟩⟩
    · simp [Value.cells] at hcs
      obtain ⟨rfl, rfl, rfl⟩ := hcs
      exact ⟨zs, .inr ⟨_, rfl, hl, hm, by simpa using hz, hcell, hwz⟩⟩
  obtain ⟨a3, rfl, rfl, rfl, w3⟩ := open_int Try.underlying5 (hval 3 5 v3 rfl rfl) h3
  obtain ⟨a4, rfl, rfl, rfl, w4⟩ := open_int Try.underlying5 (hval 4 5 v4 rfl rfl) h4
  clear hA0 hval0
  refine (walk a0 len0 cap0 z0 a1 len1 cap1 z1 a2 len2 cap2 z2 a3 a4 W w0 w1 w2 w3 w4).mono fun e W' ⟨he, bel⟩ => ?_
  subst he
  exact ⟨_, rfl, _, _, _, [], _, [], hW', trodAll_mk1 (shut_bool Try.underlying4 _), (trodAll_cons_mk (Below.trod laidOut (by kernel_rfl) (of_decide_eq_true (by kernel_rfl)) k0 bel lt0) (trodAll_cons_mk (Below.trod laidOut (by kernel_rfl) (of_decide_eq_true (by kernel_rfl)) k1 bel lt1) (trodAll_cons_mk (Below.trod laidOut (by kernel_rfl) (of_decide_eq_true (by kernel_rfl)) k2 bel lt2) (trodAll_cons_mk (shut_int Try.underlying5 w3) (trodAll_cons_mk (shut_int Try.underlying5 w4) trodAll_mk0))))), rfl, bel.frame _, fun h => by cases h⟩

theorem over : Rows.fieldSumsRow.holds Try.pinned (OpenSpec.ofChange Rows.fieldSumsSpec) :=
  OpenClaim.holds_of_wide 7 Try.f7 rfl rfl rfl rfl rfl rfl rfl ⟨rfl, rfl, rfl, rfl, rfl⟩ rfl rfl rfl rfl rfl (by kernel_rfl) Try.func7 (by kernel_rfl)
    (of_decide_eq_true (by kernel_rfl)) (by unfold Func.isWrapper; first | (rw [if_pos (by decide +kernel)]; kernel_rfl) | (rw [if_neg (by decide +kernel)]; exact ⟨rfl, rfl⟩))
    (fun os started H enc _ => lifted os started H enc)

theorem proved : Rows.FieldSumsSaid := over
end Go.Proofs.Ytehoimfbcjiloaa.fieldSums
namespace Go.Proofs.Ytehoimfbcjiloaa
theorem fieldSums_holds : Rows.FieldSumsSaid := fieldSums.proved
#print axioms fieldSums_holds
end Go.Proofs.Ytehoimfbcjiloaa

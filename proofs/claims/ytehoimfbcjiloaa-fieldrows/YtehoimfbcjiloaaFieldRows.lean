/-
  What the program's field says of rows of bytes (Axpy, Dot) is what the document's answer says, what is handed in is left whole, and a nil field answers nothing: the call returns true for every two rows and every byte (no condition).
-/
import Derived.Test.YtehoimfbcjiloaaRows
import Derived.WalkKit
import Derived.ProofKit
import Derived.OpenShut
import Derived.ShutString
import Derived.ChangeOld
import Derived.Below
import Derived.Test.YtehoimfbcjiloaaLen
import Derived.Test.YtehoimfbcjiloaaRefRow
import Derived.Test.YtehoimfbcjiloaaNil
import Derived.Test.YtehoimfbcjiloaaFlo
namespace Go.Proofs.Ytehoimfbcjiloaa.fieldRows
open Go.ChangeShapes Go.WideShapes Go.ChangeAt Go.RowKit
open Go.ChangeMaps (open_string shut_string)
set_option linter.unusedVariables false

theorem own : ownKnob Try.prog.godebug = none := by kernel_rfl
theorem laidOut : laidOutB Try.prog = true := by kernel_rfl

/-- WHAT THE WALK IS TOLD OF A SLICE OF INTEGERS THAT CAME IN: it is nil; or it leads to a row of 'cap' cells, the numbers 'zs' (the first 'len' are its elements, the rest its spare room), each fitting its kind. -/
def IsRow (k : IntKind) (w : World) (a : Option Addr) (len cap : Nat) (zs : List Int) : Prop :=
  (a = none ∧ len = 0 ∧ cap = 0 ∧ zs = []) ∨
  ∃ x, a = some x ∧ len ≤ cap ∧ cap ≤ maxLen ∧ zs.length = cap ∧ (∀ i, i < zs.length → w.cell? (x.add i) = some (.int k (zs.getD i 0))) ∧ ∀ n ∈ zs, (Lit.int k n).wf = true

open Go.Deep

theorem lent_lo (x : Nat → Nat) (n i : Nat) (h : i < n) : lentOf x n i = x i := by unfold lentOf; rw [if_pos h]
theorem dot_congr {x y x' y' : Nat → Nat} {n : Nat} (hx : ∀ i, i < n → x i = x' i) (hy : ∀ i, i < n → y i = y' i) : dot x y n = dot x' y' n := by
  induction n with
  | zero => rfl
  | succ n ih =>
    show dot x y n ^^^ _ = dot x' y' n ^^^ _
    rw [ih (fun i h => hx i (by omega)) (fun i h => hy i (by omega)), hx n (by omega), hy n (by omega)]
theorem dot_swap (x y : Nat → Nat) (n : Nat) : dot y x n = dot x y n := by
  induction n with
  | zero => rfl
  | succ n ih => show dot y x n ^^^ _ = dot x y n ^^^ _; rw [ih, Gf.mul_comm]
theorem add_congr {y x y' x' : Nat → Nat} {c i : Nat} (hy : y i = y' i) (hx : x i = x' i) : addUp y x c i = addUp y' x' c i := by
  unfold addUp; rw [hy, hx]

theorem conv_row {w : World} {a : Option Addr} {x y : Nat → Nat} {lx ly c : Nat} (K cap : Nat) (h : BytesAt w a K (addUp (lentOf y ly) (lentOf x lx) c)) (hK : K = min ly lx) :
    (convert 33 9 (.slice a K cap)).run Try.prog w = .ok (.string (strOf K (addUp y x c))) w := by
  rw [conv_bytes a K cap _ w h, strOf_congr (fun i hi => add_congr (y' := y) (x' := x) (lent_lo y ly i (by omega)) (lent_lo x lx i (by omega)))]
theorem dot_lent (x y : Nat → Nat) (lx ly K : Nat) (hK : K = min ly lx) : (dot (lentOf y ly) (lentOf x lx) (min ly lx) : Int) = (dot x y K : Int) := by
  rw [← hK, dot_swap, dot_congr (x' := x) (y' := y) (fun i hi => lent_lo x lx i (by omega)) (fun i hi => lent_lo y ly i (by omega))]
theorem rdot_is (n m cn cm k : Nat) (a b : Option Addr) (x y : Nat → Nat) (w : World) (hx : BytesAt w a n x) (hy : BytesAt w b m y) (hn : n ≤ maxLen) (hm : m ≤ maxLen) (hk : k = min n m) :
    Calls Try.prog 25 #[.slice a n cn, .slice b m cm] w fun e w' => e = .returned (.int .u8 (dot x y k)) ∧ Same w w' := by
  subst hk
  exact rdot_any n m cn cm a b x y w hx hy hn hm

set_option maxRecDepth 100000 in
set_option maxHeartbeats 1000000 in
theorem long (a0 a1 : Option Addr) (ly cy lx cx : Nat) (c : Int) (w : World) (h : 70 < lx ∨ 70 < ly) :
    Calls Try.prog 4 #[.slice a0 ly cy, .slice a1 lx cx, .int .u8 c] w fun e w' => e = .returned (.bool true) ∧ Below w.heap.size w w' := by
  by_cases g : 70 < lx
  · have g' : (70 : Int) < (lx : Int) := by omega
    clear h g
    go_enter Try.func4, Try.ntmps4
    go_wp2_with fail
    refine (begun_any _).mono ?_
    rintro e v0 ⟨rfl, b0⟩
    go_wp2
    go_ret
    exact ⟨rfl, b0⟩
  · have g1 : ¬ (70 : Int) < (lx : Int) := by omega
    have g2 : (70 : Int) < (ly : Int) := by omega
    clear h g
    go_enter Try.func4, Try.ntmps4
    go_wp2_with fail
    refine (begun_any _).mono ?_
    rintro e v0 ⟨rfl, b0⟩
    go_wp2
    go_ret
    exact ⟨rfl, b0⟩

set_option maxRecDepth 100000 in
set_option maxHeartbeats 1000000 in
theorem core (a0 a1 : Option Addr) (ly cy lx cx : Nat) (y x : Nat → Nat) (c : Nat) (w : World) (hy : BytesAt w a0 ly y) (hx : BytesAt w a1 lx x) (hc : c < 256) (ny : ly ≤ 70) (nx : lx ≤ 70) :
    Calls Try.prog 4 #[.slice a0 ly cy, .slice a1 lx cx, .int .u8 c] w fun e w' => e = .returned (.bool true) ∧ Below w.heap.size w w' := by
  obtain ⟨K0, hK0⟩ : ∃ K, K = min ly lx := ⟨_, rfl⟩
  have hK : Hid (K0 = min ly lx) := hK0
  clear hK0
  have my : ly ≤ maxLen := by unfold maxLen; omega
  have mx : lx ≤ maxLen := by unfold maxLen; omega
  go_enter Try.func4, Try.ntmps4
  go_wp2_with fail
  refine (begun_any _).mono ?_
  rintro e v0 ⟨rfl, b0⟩
  have x0 := hx.below b0 (Nat.le_refl _)
  have y0 := hy.below b0 (Nat.le_refl _)
  go_wp2_with fail
  refine (new_any _).mono ?_
  rintro e w0 ⟨rfl, hb, F_0, hsz⟩
  clear hsz
  have x_0 := x0.below hb (Nat.le_refl _)
  have y_0 := y0.below hb (Nat.le_refl _)
  have B_0 := b0.trans (hb.mono b0.size)
  clear x0 y0 b0 hb hx hy
  generalize v0.heap.size = P at *
  go_wp2_with fail
  refine (lent_any _ ly cy _ _ y_0 (by omega)).mono ?_
  rintro e w1 ⟨rfl, N_1, b_1, hsz⟩
  clear hsz
  have F_1 := F_0.below b_1 F_0.lt
  have x_1 := x_0.below b_1 (Nat.le_refl _)
  have y_1 := y_0.below b_1 (Nat.le_refl _)
  have B_1 := B_0.trans (b_1.mono B_0.size)
  clear F_0 x_0 y_0 B_0 b_1
  have p_1 := N_1
  clear N_1
  go_wp2_with fail
  refine (lent_any _ lx cx _ _ x_1 (by omega)).mono ?_
  rintro e w2 ⟨rfl, N_2, b_2, hsz⟩
  clear hsz
  have F_2 := F_1.below b_2 F_1.lt
  have x_2 := x_1.below b_2 (Nat.le_refl _)
  have y_2 := y_1.below b_2 (Nat.le_refl _)
  have p_2 := p_1.below b_2 (Nat.le_refl _)
  have B_2 := B_1.trans (b_2.mono B_1.size)
  clear F_1 x_1 y_1 p_1 B_1 b_2
  have q_2 := N_2
  clear N_2
  go_wp2_with fail
  refine (nil_inv 1 _).mono ?_
  rintro e wz ⟨rfl, hw⟩
  subst hw
  go_wp2_with fail
  refine (nil_log 1 _).mono ?_
  rintro e wz ⟨rfl, hw⟩
  subst hw
  go_wp2_with fail
  simp only [List.append]
  refine wp_region_any (by kernel_rfl) ?_
  refine wpAny_take (i := 0) (v := (.pointer (some ⟨P, 0, none⟩))) rfl (by kernel_rfl) (by kernel_rfl) (by kernel_rfl) (fun _ _ _ h => h) (Or.inl ⟨by kernel_rfl, fun _ => by kernel_rfl⟩) ?_
  refine wpAny_take (i := 1) (v := (.slice (some ⟨w0.heap.size, 0, none⟩) ly (ly + 5))) rfl (by kernel_rfl) (by kernel_rfl) (by kernel_rfl) (fun _ _ _ h => h) (Or.inl ⟨by kernel_rfl, fun _ => by kernel_rfl⟩) ?_
  refine wpAny_take (i := 2) (v := (.slice (some ⟨w1.heap.size, 0, none⟩) lx (lx + 5))) rfl (by kernel_rfl) (by kernel_rfl) (by kernel_rfl) (fun _ _ _ h => h) (Or.inl ⟨by kernel_rfl, fun _ => by kernel_rfl⟩) ?_
  refine wpAny_take (i := 3) (v := (.int .u8 (c : Int))) rfl (by kernel_rfl) (by kernel_rfl) (by kernel_rfl) (fun _ _ _ h => h) (Or.inl ⟨by kernel_rfl, fun _ => by kernel_rfl⟩) ?_
  refine wpAny_take (i := 6) (v := (.slice a0 ly cy)) rfl (by kernel_rfl) (by kernel_rfl) (by kernel_rfl) (fun _ _ _ h => h) (Or.inl ⟨by kernel_rfl, fun _ => by kernel_rfl⟩) ?_
  refine wpAny_take (i := 7) (v := (.slice a1 lx cx)) rfl (by kernel_rfl) (by kernel_rfl) (by kernel_rfl) (fun _ _ _ h => h) (Or.inl ⟨by kernel_rfl, fun _ => by kernel_rfl⟩) ?_
  refine wpAny_take (i := 8) (v := (.int .u8 (c : Int))) rfl (by kernel_rfl) (by kernel_rfl) (by kernel_rfl) (fun _ _ _ h => h) (Or.inl ⟨by kernel_rfl, fun _ => by kernel_rfl⟩) ?_
  refine wpAny_ready (rs := [4]) (by kernel_rfl) (by simp) ?_
  refine AllReady.cons rfl (fun K2 hK2 => ?_) AllReady.nil
  go_simp
  refine (axpy_bytes P ly lx (ly + 5) (lx + 5) c _ _ (lentOf y ly) (lentOf x lx) _ ?_ ?_ ?_ (by omega) (by omega) hc K0 hK.out).mono ?_
  · exact ⟨F_2.powers, F_2.logs⟩
  · exact ⟨(p_2.take (m := ly) (by omega)).cells, (p_2.take (m := ly) (by omega)).lt⟩
  · exact ⟨(q_2.take (m := lx) (by omega)).cells, (q_2.take (m := lx) (by omega)).lt⟩
  rintro e w3 ⟨rfl, r_3, b_3, hsz⟩
  clear hsz
  have b_3 := Below.trans (b := World.drew _) (Below.refl _ _).drew b_3
  have F_3 := F_2.below b_3 F_2.lt
  have x_3 := x_2.below b_3 (Nat.le_refl _)
  have y_3 := y_2.below b_3 (Nat.le_refl _)
  have p_3 := p_2.below b_3 (Nat.le_refl _)
  have q_3 := q_2.below b_3 (Nat.le_refl _)
  have B_3 := B_2.trans (b_3.mono B_2.size)
  clear F_2 x_2 y_2 p_2 q_2 B_2 b_3
  have r_3 : BytesAt w3 (some ⟨wz.heap.size, 0, none⟩) K0 (addUp (lentOf y ly) (lentOf x lx) c) := r_3
  have e1 := conv_row (a := some ⟨wz.heap.size, 0, none⟩) K0 K0 r_3 hK.out
  refine hK2 _ _ ?_
  clear hK2 K2
  apply Flo.wpAny_float_at 5 9 10 (.string (strOf K0 (addUp y x c))) (fun w4 u => ∃ r2 cr2, u = .slice r2 K0 cr2 ∧ BytesAt w4 r2 K0 (addUp y x c) ∧ Below w3.heap.size w3 w4)
  case hi => simp only [List.getElem?_toArray, List.getElem?_cons_succ, List.getElem?_cons_zero]; exact rfl
  case hj => simp only [List.getElem?_toArray, List.getElem?_cons_succ, List.getElem?_cons_zero]; exact rfl
  case hij => decide
  case hs => kernel_rfl
  case hf => kernel_rfl
  case hr => kernel_rfl
  case hrA => kernel_rfl
  case hrB => kernel_rfl
  case hfB => kernel_rfl
  case hlex => kernel_rfl
  case hwi => kernel_rfl
  case hyi => go_simp
  case hd => intro d h; simp at h; subst h; simp
  case call =>
    intro a' ha' K2 hK2
    rcases ha' with rfl | rfl
    all_goals
      go_simp
      go_at_call 23
      refine (raxpy_any ly lx cy cx c _ _ y x _ y_3 x_3 (by omega) (by omega) hc).mono ?_
      rintro e w4 ⟨r2, cr2, rfl, N_4, b_4⟩
      rw [← hK.out] at N_4 ⊢
      exact hK2 _ _ ⟨r2, cr2, rfl, N_4, b_4⟩
  case hy2 =>
    rintro w4 u ⟨r2, cr2, rfl, N_4, b_4⟩
    refine .inl ⟨by kernel_rfl, ?_⟩
    rintro w5 ⟨n, rfl⟩
    have r_4 := r_3.below b_4 (Nat.le_refl _)
    have e3 : (convert 33 9 (.slice (some ⟨wz.heap.size, 0, none⟩) K0 K0)).run Try.prog (w4.drewN n) = .ok (.string (strOf K0 (addUp y x c))) (w4.drewN n) := conv_row (a := some ⟨wz.heap.size, 0, none⟩) K0 K0 ⟨r_4.cells, r_4.lt⟩ hK.out
    unfold Oper.quietAt
    go_simp
  case rest =>
    rintro w4 u ⟨r2, cr2, rfl, N_4, b_4⟩
    have F_4 := F_3.below b_4 F_3.lt
    have x_4 := x_3.below b_4 (Nat.le_refl _)
    have y_4 := y_3.below b_4 (Nat.le_refl _)
    have p_4 := p_3.below b_4 (Nat.le_refl _)
    have q_4 := q_3.below b_4 (Nat.le_refl _)
    have B_4 := B_3.trans (b_4.mono B_3.size)
    clear F_3 x_3 y_3 p_3 q_3 B_3 b_4 e1 r_3
    have e2 : ∀ n, (convert 33 9 (.slice r2 K0 cr2)).run Try.prog (w4.drewN n) = .ok (.string (strOf K0 (addUp y x c))) (w4.drewN n) := fun n => conv_bytes _ K0 cr2 _ _ ⟨N_4.cells, N_4.lt⟩
    clear N_4
    simp only [List.drop_succ_cons, List.drop_zero, Act.put, List.setIfInBounds_toArray, List.set_cons_succ, List.set_cons_zero]
    change wpQuiet _ _ (fun w' => ∃ n, w' = w4.drewN n) _ _ _
    repeat (first | go_big_quiet_step ((first | (go_at_call_of 24 (Value.pointer (some ⟨P, 0, none⟩)); refine Calls.quiet_of (dot_at P ly lx (ly + 5) (lx + 5) (dot x y K0 : Int) _ _ (lentOf y ly) (lentOf x lx) _ ?_ ?_ ?_ my mx (dot_lent x y lx ly K0 hK.out)); exact ⟨F_4.powers, F_4.logs⟩; exact ⟨(p_4.take (m := ly) (by omega)).cells, (p_4.take (m := ly) (by omega)).lt⟩; exact ⟨(q_4.take (m := lx) (by omega)).cells, (q_4.take (m := lx) (by omega)).lt⟩) | (go_at_call 25; refine Calls.quiet_of (rdot_is lx ly cx cy K0 _ _ x y _ ?_ ?_ mx my (by have := hK.out; omega)); exact ⟨x_4.cells, x_4.lt⟩; exact ⟨y_4.cells, y_4.lt⟩) | (go_at_call_of 26 ly; refine Calls.quiet_of_same (whole_any _ _ ly cy y _ ?_ ?_ (by omega)); exact ⟨p_4.cells, p_4.lt⟩; exact ⟨y_4.cells, y_4.lt⟩) | (go_at_call_of 26 lx; refine Calls.quiet_of_same (whole_any _ _ lx cx x _ ?_ ?_ (by omega)); exact ⟨q_4.cells, q_4.lt⟩; exact ⟨x_4.cells, x_4.lt⟩) | (go_at_call 17; exact Calls.quiet_of_same (nil_mul 3 3 _)) | (go_at_call 19; exact Calls.quiet_of_same (nil_exp 1 _)) | (go_at_call 22; exact Calls.quiet_of_same (nil_axpy _ _ _ _)) | (go_at_call_of 24 (Value.pointer none); exact Calls.quiet_of_same (nil_dot _ _ _)))) | quiet_step ((first | (go_at_call_of 24 (Value.pointer (some ⟨P, 0, none⟩)); refine Calls.quiet_of (dot_at P ly lx (ly + 5) (lx + 5) (dot x y K0 : Int) _ _ (lentOf y ly) (lentOf x lx) _ ?_ ?_ ?_ my mx (dot_lent x y lx ly K0 hK.out)); exact ⟨F_4.powers, F_4.logs⟩; exact ⟨(p_4.take (m := ly) (by omega)).cells, (p_4.take (m := ly) (by omega)).lt⟩; exact ⟨(q_4.take (m := lx) (by omega)).cells, (q_4.take (m := lx) (by omega)).lt⟩) | (go_at_call 25; refine Calls.quiet_of (rdot_is lx ly cx cy K0 _ _ x y _ ?_ ?_ mx my (by have := hK.out; omega)); exact ⟨x_4.cells, x_4.lt⟩; exact ⟨y_4.cells, y_4.lt⟩) | (go_at_call_of 26 ly; refine Calls.quiet_of_same (whole_any _ _ ly cy y _ ?_ ?_ (by omega)); exact ⟨p_4.cells, p_4.lt⟩; exact ⟨y_4.cells, y_4.lt⟩) | (go_at_call_of 26 lx; refine Calls.quiet_of_same (whole_any _ _ lx cx x _ ?_ ?_ (by omega)); exact ⟨q_4.cells, q_4.lt⟩; exact ⟨x_4.cells, x_4.lt⟩) | (go_at_call 17; exact Calls.quiet_of_same (nil_mul 3 3 _)) | (go_at_call 19; exact Calls.quiet_of_same (nil_exp 1 _)) | (go_at_call 22; exact Calls.quiet_of_same (nil_axpy _ _ _ _)) | (go_at_call_of 24 (Value.pointer none); exact Calls.quiet_of_same (nil_dot _ _ _)))))
    refine wpQuiet_nil ?_
    rintro w5 ⟨n5, rfl⟩
    have B_5 := B_4.trans (below_drews n5)
    go_wp2
    go_ret
    exact ⟨rfl, B_5⟩

theorem walk (a0 : Option Addr) (len0 cap0 : Nat) (z0 : List Int) (a1 : Option Addr) (len1 cap1 : Nat) (z1 : List Int) (a2 : Int) (w : World) (w0 : IsRow .u8 w a0 len0 cap0 z0) (w1 : IsRow .u8 w a1 len1 cap1 z1) (w2 : (Lit.int .u8 a2).wf = true) :
    Calls Try.prog 4 #[.slice a0 len0 cap0, .slice a1 len1 cap1, .int .u8 a2] w fun e w' => e = .returned (.bool true) ∧ Below w.heap.size w w' := by
  obtain ⟨c, rfl, hc⟩ := int_nat a2 (by have := bounds_u8 w2; omega)
  have r0 : Came w a0 len0 cap0 z0 := w0
  have r1 : Came w a1 len1 cap1 z1 := w1
  obtain ⟨h0, k0, m0⟩ := r0.bytes
  obtain ⟨h1, k1, m1⟩ := r1.bytes
  by_cases h : 70 < len1 ∨ 70 < len0
  · exact long a0 a1 len0 cap0 len1 cap1 c w h
  · exact core a0 a1 len0 cap0 len1 cap1 _ _ c w h0 h1 hc (by omega) (by omega)

/-! ### THE ROW's STEP: WRITTEN OUT: LEAVE IT -/
set_option maxRecDepth 100000 in
theorem lifted (os : Os) (started : os.Started) (H : Type) (enc : TypeId × Value → H) :
    ReturnsInHanded {} Try.checked os 4 .any (Rows.fieldRowsSpec.pre6 enc Try.prog Try.f4 Rows.fieldRowsRow.domain false) (Rows.fieldRowsSpec.post enc Try.prog Try.f4 false true false false) := by
  refine returnsInHanded_of_change (C := Try.checked) own started (by kernel_rfl) Try.func4
    (ChangeSpec.witness6 (enc := enc) (C := Try.checked) false ⟨#[], #[.slice none 0 0, .slice none 0 0, .int .u8 0], []⟩ 8 (by kernel_rfl) (by kernel_rfl) (by kernel_rfl) (by kernel_rfl)) ?_
  intro W base args ds gs before hval0 hW hcnd _
  have hval : ∀ (j : Nat) t v, Try.f4.params[j]? = some t → args[j]? = some v → Value.okWide Try.prog W .any base t v := hval0
  have hW' := hW
  obtain ⟨p, q, hA0, hV, rfl, hfz, hnd⟩ := hW
  have hA : DataW.TrodAll enc Try.prog W 0 (fun _ => true) true Try.f4.params.toList args.toList ds p := hA0
  rw [Try.params4] at hA hval
  obtain ⟨v0, vs0, d0, ds0, p0, q0, hargs, rfl, rfl, h0, r0⟩ := trodAll_cons hA
  obtain ⟨v1, vs1, d1, ds1, p1, q1, rfl, rfl, rfl, h1, r1⟩ := trodAll_cons r0
  obtain ⟨v2, vs2, d2, ds2, p2, q2, rfl, rfl, rfl, h2, r2⟩ := trodAll_cons r1
  obtain ⟨rfl, rfl, rfl⟩ := trodAll_nil r2
  obtain rfl : args = #[v0, v1, v2] := by cases args; simp_all
  obtain ⟨rfl, rfl⟩ := trodVars_none hV
  obtain ⟨a0, len0, cap0, rfl⟩ := okWide_slice Try.underlying33 (hval 0 33 v0 rfl rfl)
  have k0 := h0
  have lt0 : ∀ x ∈ p0, x.block < W.heap.size := by obtain ⟨m, hm⟩ := k0; exact DataW.trod_lt m _ _ _ hm
  obtain ⟨z0, w0⟩ : ∃ zs, IsRow .u8 W a0 len0 cap0 zs := by
    obtain ⟨fuel, hf⟩ := h0
    rcases open_ints Try.underlying33 Try.underlying5 (by kernel_rfl) hf with ⟨hcs, _⟩ | ⟨x, l, c, zs, hcs, _, hl, hm, hz, _, hcell, hwz⟩
    · simp [Value.cells] at hcs
      obtain ⟨rfl, rfl, rfl⟩ := hcs
      exact ⟨[], .inl ⟨rfl, rfl, rfl, rfl⟩⟩
    · simp [Value.cells] at hcs
      obtain ⟨rfl, rfl, rfl⟩ := hcs
      exact ⟨zs, .inr ⟨_, rfl, hl, hm, by simpa using hz, hcell, hwz⟩⟩
  obtain ⟨a1, len1, cap1, rfl⟩ := okWide_slice Try.underlying33 (hval 1 33 v1 rfl rfl)
  have k1 := h1
  have lt1 : ∀ x ∈ p1, x.block < W.heap.size := by obtain ⟨m, hm⟩ := k1; exact DataW.trod_lt m _ _ _ hm
  obtain ⟨z1, w1⟩ : ∃ zs, IsRow .u8 W a1 len1 cap1 zs := by
    obtain ⟨fuel, hf⟩ := h1
    rcases open_ints Try.underlying33 Try.underlying5 (by kernel_rfl) hf with ⟨hcs, _⟩ | ⟨x, l, c, zs, hcs, _, hl, hm, hz, _, hcell, hwz⟩
    · simp [Value.cells] at hcs
      obtain ⟨rfl, rfl, rfl⟩ := hcs
      exact ⟨[], .inl ⟨rfl, rfl, rfl, rfl⟩⟩
    · simp [Value.cells] at hcs
      obtain ⟨rfl, rfl, rfl⟩ := hcs
      exact ⟨zs, .inr ⟨_, rfl, hl, hm, by simpa using hz, hcell, hwz⟩⟩
  obtain ⟨a2, rfl, rfl, rfl, w2⟩ := open_int Try.underlying5 (hval 2 5 v2 rfl rfl) h2
  clear hA0 hval0
  refine (walk a0 len0 cap0 z0 a1 len1 cap1 z1 a2 W w0 w1 w2).mono fun e W' ⟨he, bel⟩ => ?_
  subst he
  exact ⟨_, rfl, _, _, _, [], _, [], hW', trodAll_mk1 (shut_bool Try.underlying4 _), (trodAll_cons_mk (Below.trod laidOut (by kernel_rfl) (of_decide_eq_true (by kernel_rfl)) k0 bel lt0) (trodAll_cons_mk (Below.trod laidOut (by kernel_rfl) (of_decide_eq_true (by kernel_rfl)) k1 bel lt1) (trodAll_cons_mk (shut_int Try.underlying5 w2) trodAll_mk0))), rfl, bel.frame _, fun h => by cases h⟩

theorem over : Rows.fieldRowsRow.holds Try.pinned (OpenSpec.ofChange Rows.fieldRowsSpec) :=
  OpenClaim.holds_of_wide 4 Try.f4 rfl rfl rfl rfl rfl rfl rfl ⟨rfl, rfl, rfl, rfl, rfl⟩ rfl rfl rfl rfl rfl (by kernel_rfl) Try.func4 (by kernel_rfl)
    (of_decide_eq_true (by kernel_rfl)) (by unfold Func.isWrapper; first | (rw [if_pos (by decide +kernel)]; kernel_rfl) | (rw [if_neg (by decide +kernel)]; exact ⟨rfl, rfl⟩))
    (fun os started H enc _ => lifted os started H enc)

theorem proved : Rows.FieldRowsSaid := over
end Go.Proofs.Ytehoimfbcjiloaa.fieldRows
namespace Go.Proofs.Ytehoimfbcjiloaa
theorem fieldRows_holds : Rows.FieldRowsSaid := fieldRows.proved
#print axioms fieldRows_holds
end Go.Proofs.Ytehoimfbcjiloaa
